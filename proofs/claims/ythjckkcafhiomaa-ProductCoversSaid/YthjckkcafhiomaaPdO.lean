/- Walks: cmp.Compare of texts, cmp.Or, product.compare. -/
import Derived.Test.YthjckkcafhiomaaPdP
import Derived.Deep.RegionHeld3
namespace Go.Proofs.Ythjckkcafhiomaa.Pd
open Go.RowKit

theorem isNaN_any (s : ByteArray) (w : World) :
    Calls Try.prog 46 #[.string s] w fun e w' => e = .returned (.bool false) ∧ w = w' := by
  go_enter Try.func46, Try.ntmps46
  go_wp2
  go_ret
  exact ⟨ret_bool (by simp), rfl⟩
/-- Texts compared byte by byte. -/
def cmpB (a b : ByteArray) : Int := if sLt a b then -1 else if a = b then 0 else 1
set_option maxHeartbeats 1000000 in
theorem cmpStr_any (a b : ByteArray) (w : World) :
    Calls Try.prog 38 #[.string a, .string b] w fun e w' => e = .returned (.int .i64 (cmpB a b)) ∧ w = w' := by
  cases g1 : Op.bytesLess a.toList b.toList with
  | true =>
    have HF : Hid (cmpB a b = -1) := Lib.hid (by unfold cmpB sLt; rw [if_pos g1])
    go_enter Try.func38, Try.ntmps38
    go_wp2_with (go_at_call 46; refine (isNaN_any _ _).mono ?_; rintro e w1 ⟨rfl, rfl⟩)
    go_ret
    exact ⟨ret_i64 HF.out.symm, rfl⟩
  | false =>
    obtain ⟨v, hv⟩ : ∃ v, decide (a = b) = v := ⟨_, rfl⟩
    have g2 := sEq_is hv
    cases v
    · have HF : Hid (cmpB a b = 1) := Lib.hid (by unfold cmpB sLt; rw [if_neg (by simp [g1]), if_neg (by simpa using hv)])
      clear hv
      go_enter Try.func38, Try.ntmps38
      go_wp2_with (go_at_call 46; refine (isNaN_any _ _).mono ?_; rintro e w1 ⟨rfl, rfl⟩)
      go_ret
      exact ⟨ret_i64 HF.out.symm, rfl⟩
    · have HF : Hid (cmpB a b = 0) := Lib.hid (by unfold cmpB sLt; rw [if_neg (by simp [g1]), if_pos (by simpa using hv)])
      clear hv
      go_enter Try.func38, Try.ntmps38
      go_wp2_with (go_at_call 46; refine (isNaN_any _ _).mono ?_; rintro e w1 ⟨rfl, rfl⟩)
      go_ret
      exact ⟨ret_i64 HF.out.symm, rfl⟩
def orI (x y : Int) : Int := if x = 0 then y else x
theorem or_any (x y : Int) (g : Nat) (t : TypeId) (w : World) (h : Blk w g t #[.int .i64 x, .int .i64 y]) :
    Calls Try.prog 37 #[.slice (some ⟨g, 0, none⟩) 2 2] w fun e w' => e = .returned (.int .i64 (orI x y)) ∧ w = w' := by
  obtain ⟨c0, c1⟩ := h.two
  clear h
  go_enter Try.func37, Try.ntmps37
  go_wp2_with fail
  go_loopw [8] (fun iv wr => wr = w ∧ (iv = .int .i64 0 ∨ (iv = .int .i64 1 ∧ x = 0) ∨ (iv = .int .i64 2 ∧ x = 0 ∧ y = 0))) (fun iv _ => 2 - (intOf iv).toNat)
  case atStart => exact ⟨rfl, .inl rfl⟩
  case round =>
    obtain ⟨rfl, hr⟩ := hrel
    rcases hr with rfl | ⟨rfl, rfl⟩ | ⟨rfl, rfl, rfl⟩
    · by_cases hx : x = 0
      · subst hx
        go_wp2_with fail
        go_roundw
        case rel => simp
        case measure => simp [intOf]
      · have HR : Hid (orI x y = x) := Lib.hid (if_neg hx)
        have hq : (x != 0) = true := by simp [hx]
        clear hx
        go_wp2_with fail
        go_ret
        exact ⟨ret_i64 HR.out.symm, rfl⟩
    · by_cases hx : y = 0
      · subst hx
        go_wp2_with fail
        go_roundw
        case rel => simp
        case measure => simp [intOf]
      · have HR : Hid (orI 0 y = y) := Lib.hid (if_pos rfl)
        have hq : (y != 0) = true := by simp [hx]
        clear hx
        go_wp2_with fail
        go_ret
        exact ⟨ret_i64 HR.out.symm, rfl⟩
    · go_wp2_with fail
      go_ret
      exact ⟨rfl, rfl⟩
theorem bad_cmp (p q : Pr) : decide (0 ≤ orI (cmpB p.nm q.nm) (Lib.compareInt p.fr q.fr)) = bad p q := by
  unfold bad orI cmpB
  cases h : sLt p.nm q.nm
  · by_cases he : p.nm = q.nm
    · rw [he, sLt_irrefl]
      simp only [if_neg Bool.false_ne_true, if_true, decide_true, Bool.true_and, Bool.false_or]
      unfold Lib.compareInt
      by_cases h1 : p.fr < q.fr
      · rw [if_pos h1]; simp; omega
      · rw [if_neg h1]
        by_cases h2 : q.fr < p.fr
        · first | rw [if_pos h2]; simp; omega | (split <;> simp <;> omega)
        · first | rw [if_neg h2]; simp; omega | (split <;> simp <;> omega)
    · rw [sLt_total h he]
      simp [he]
  · rw [sLt_asymm h]
    have := sLt_ne h
    simp [this]
set_option maxRecDepth 100000 in
set_option maxHeartbeats 8000000 in
theorem compare_any (p q : Pr) (w : World) : Calls Try.prog 24 #[.agg p.cells, .agg q.cells] w fun e w' => e = .returned (.int .i64 (orI (cmpB p.nm q.nm) (Lib.compareInt p.fr q.fr))) ∧ Below w.heap.size w w' := by
  obtain ⟨nm, fr, fe, ca, pr, A, n, c, bs⟩ := p
  obtain ⟨nm', fr', fe', ca', pr', A', n', c', bs'⟩ := q
  unfold Pr.cells
  simp only
  obtain ⟨g, hg⟩ : ∃ g, w.heap.size = g := ⟨_, rfl⟩
  obtain ⟨L, hL⟩ : ∃ L, (w.alloc (.cells #[.string nm, .int .i64 fr, .int .i64 fe, .string ca, .bool pr, .slice A n c] 29)).alloc (.cells #[.string nm', .int .i64 fr', .int .i64 fe', .string ca', .bool pr', .slice A' n' c'] 29) = L := ⟨_, rfl⟩
  have hbL : Below w.heap.size w L := hL ▸ (below_one w _).alloc (by simp) _
  have h1 : Blk L g 29 #[.string nm, .int .i64 fr, .int .i64 fe, .string ca, .bool pr, .slice A n c] := hL ▸ hg ▸ (Blk.new w _ _).alloc _
  have h2 : Blk L (g + 1) 29 #[.string nm', .int .i64 fr', .int .i64 fe', .string ca', .bool pr', .slice A' n' c'] := by
    have h := Blk.new (w.alloc (.cells #[.string nm, .int .i64 fr, .int .i64 fe, .string ca, .bool pr, .slice A n c] 29)) 29 #[.string nm', .int .i64 fr', .int .i64 fe', .string ca', .bool pr', .slice A' n' c']
    rw [World.size_alloc, hg, hL] at h
    exact h
  obtain ⟨c0, c1, -, -, -, -⟩ := h1.six
  obtain ⟨d0, d1, -, -, -, -⟩ := h2.six
  have HBL := Lib.hid hbL
  clear h1 h2 hbL
  go_enter Try.func24, Try.ntmps24
  go_wp2_with fail
  clear hL hg
  go_region_held3 (fun w' => w'.cell? ⟨g, 0, none⟩ = some (.string nm) ∧ w'.cell? ⟨g, 1, none⟩ = some (.int .i64 fr) ∧ w'.cell? ⟨g + 1, 0, none⟩ = some (.string nm') ∧ w'.cell? ⟨g + 1, 1, none⟩ = some (.int .i64 fr')) (go_keep)
    (first
      | (go_at_call 38; (with_reducible refine (cmpStr_any _ _ _).mono ?_); rintro e w1 ⟨rfl, rfl⟩)
      | (go_at_call 39; (with_reducible refine (Try.cmp_Compare_int _ _ _).mono ?_); rintro e w1 ⟨rfl, rfl⟩)
      | (go_at_call 37; (refine (or_any _ _ _ _ _ (Blk.new _ _ _).drew).mono ?_); rintro e w1 ⟨rfl, rfl⟩))
  go_wp2_with fail
  go_ret
  exact ⟨rfl, (HBL.out.alloc HBL.out.size _).drew⟩
theorem compare_is (p q : Pr) (cv : Int) (h : orI (cmpB p.nm q.nm) (Lib.compareInt p.fr q.fr) = cv) (w : World) : Calls Try.prog 24 #[.agg p.cells, .agg q.cells] w fun e w' => e = .returned (.int .i64 cv) ∧ Below w.heap.size w w' := by
  subst h; exact compare_any p q w
end Go.Proofs.Ythjckkcafhiomaa.Pd
