/- Walks: the gaps of a source. -/
import Derived.Test.YtgobbeommjjlfaaDdW
namespace Go.Proofs.Ytgobbeommjjlfaa
open Go.RowKit

/-- One range, as gaps are collected. -/
def stM (s : Int) (p : List Rg × Int) (r : Rg) : List Rg × Int := if r.1 = s then ((if p.2 < r.2.1 then p.1 ++ [(s, p.2, r.2.1 - 1)] else p.1), r.2.2 + 1) else p
def glA (s : Int) (l : List Rg) : List Rg × Int := l.foldl (stM s) ([], 1)
theorem gl_step {s : Int} {l : List Rg} {k : Nat} {y : Rg} {P : List Rg × Int} (hk : k < l.length) (hp : l.getD k rg0 = y) (hP : glA s (l.take k) = P) : glA s (l.take (k + 1)) = stM s P y := by
  have e : l[k] = y := by rw [← hp, List.getD_eq_getElem?_getD, List.getElem?_eq_getElem hk]; rfl
  subst hP
  unfold glA
  rw [List.take_succ_eq_append_getElem hk, List.foldl_append, e]; rfl
theorem stM_skip {s : Int} : ∀ {l : List Rg} {P : List Rg × Int}, (∀ r ∈ l, r.1 ≠ s) → l.foldl (stM s) P = P
  | [], _, _ => rfl
  | r :: l, P, h => by
    rw [List.foldl_cons, show stM s P r = P by unfold stM; rw [if_neg (h r (by simp))]]
    exact stM_skip (fun q hq => h q (by simp [hq]))
theorem gl_rest {s : Int} {l : List Rg} {k : Nat} {y : Rg} (hl : Can l) (hk : k < l.length) (hp : l.getD k rg0 = y) (hy : s < y.1) : glA s l = glA s (l.take k) := by
  have e : l[k] = y := by rw [← hp, List.getD_eq_getElem?_getD, List.getElem?_eq_getElem hk]; rfl
  unfold glA
  conv => lhs; rw [← List.take_append_drop k l]
  rw [List.foldl_append]
  refine stM_skip (fun r hr => ?_)
  have hc : Can (l.drop k) := ⟨fun q hq => hl.1 q (List.mem_of_mem_drop hq), hl.2.sublist (List.drop_sublist _ _)⟩
  rw [List.drop_eq_getElem_cons hk, e] at hr hc
  obtain ⟨_, h2, _⟩ := can_cons.1 hc
  rcases List.mem_cons.1 hr with rfl | hr
  · omega
  · have := apt_iff.1 (h2 r hr); omega
theorem bef_one {s : Int} {l : List Rg} (hl : Can l) {r : Rg} (hr : r ∈ l) (h : bef s 1 r = true) : r.1 < s := by
  obtain ⟨a, b, c⟩ := okR_iff.1 (hl.1 r hr)
  rw [idB_iff] at a b
  rw [bef_iff] at h
  omega
theorem gl_plc {s : Int} {l : List Rg} (hl : Can l) : glA s (l.take (plc s 1 l)) = ([], 1) := by
  unfold glA
  refine stM_skip (fun r hr => ?_)
  obtain ⟨k, hk, rfl⟩ := List.mem_iff_getElem.1 hr
  rw [List.length_take] at hk
  have h := plc_get (s := s) (x := 1) hl (k := k) (by omega)
  rw [decide_eq_true (by omega), List.getD_eq_getElem?_getD, List.getElem?_eq_getElem (show k < l.length by omega)] at h
  rw [List.getElem_take]
  have := bef_one hl (List.getElem_mem (show k < l.length by omega)) h
  omega
theorem gl_from {s : Int} {l : List Rg} {k : Nat} {y : Rg} (hl : Can l) (hk : k < l.length) (hp : l.getD k rg0 = y) (hk2 : plc s 1 l ≤ k) : s ≤ y.1 := by
  have h := plc_get (s := s) (x := 1) hl hk
  rw [decide_eq_false (by omega), hp, bef_not] at h
  omega
theorem gl_bound {s : Int} {l : List Rg} (hl : Can l) : ∀ k, k ≤ l.length → (glA s (l.take k)).1.length ≤ k ∧ 1 ≤ (glA s (l.take k)).2 ∧ (glA s (l.take k)).2 ≤ 1000000000
  | 0, _ => by simp [glA]
  | k + 1, hk => by
    obtain ⟨h1, h2, h3⟩ := gl_bound (s := s) hl k (by omega)
    obtain ⟨⟨ys, yf, yt⟩, hp⟩ : ∃ p, l.getD k rg0 = p := ⟨_, rfl⟩
    obtain ⟨a, b, c, d, e⟩ := can_get hl (by omega) hp
    rw [gl_step (by omega) hp rfl]
    unfold stM
    split
    · refine ⟨?_, by show 1 ≤ yt + 1; omega, by show yt + 1 ≤ _; omega⟩
      simp only
      split
      · simp; omega
      · omega
    · exact ⟨by omega, h2, h3⟩
set_option maxRecDepth 100000 in
set_option maxHeartbeats 8000000 in
theorem missing_any (A : Option Addr) (n c : Nat) (l : List Rg) (s : Int) (w : World) (hl : Can l) (h6 : n ≤ 1000000) (hA : RgR w A l) (hn : l.length = n) (hc : n ≤ c) (hm : c ≤ maxLen) :
    Calls Try.prog 25 #[.slice A n c, .int .i64 s] w (OwnOut (glA s l).1.length (glA s l).1 w) := by
  obtain ⟨i0, hi0, hz0, hz1, hz2⟩ := info_parts rangeInfo
  have HPL := Lib.hid (place_any A n c l s 1 w hl h6 hA hn hc hm)
  have hpl := plc_le s 1 l
  have hg0 := gl_plc (s := s) hl
  have HFR := Lib.hid (fun k y (h : k < l.length) (e : l.getD k rg0 = y) (h2 : plc s 1 l ≤ k) => gl_from hl h e h2)
  obtain ⟨p, hp⟩ : ∃ p, plc s 1 l = p := ⟨_, rfl⟩
  rw [hp] at HPL hpl hg0 HFR
  rw [hn] at hpl
  unfold maxLen at hm
  have HA := Lib.hid hA; have HN := Lib.hid hn; have HL := Lib.hid hl; have HG0 := Lib.hid hg0
  have HBD := Lib.hid (gl_bound (s := s) hl)
  have HCG := Lib.hid (fun k s f t (h : k < l.length) (e : l.getD k rg0 = (s, f, t)) => can_get hl h e)
  clear hA hn hl hp hg0
  by_cases hpn : p = n
  · subst hpn
    have HR : Hid ((glA s l).1 = []) := Lib.hid (by rw [← List.take_length (l := l), HN.out, HG0.out])
    rw [HR.out]
    go_enter Try.func25, Try.ntmps25
    go_wp2_with (go_at_call 30; (with_reducible refine HPL.out.mono ?_); rintro e w1 ⟨rfl, hb1⟩)
    all_goals
      go_loopw [5, 15] (fun v iv wr => v = .slice none 0 0 ∧ iv = .int .i64 0 ∧ Below w.heap.size w wr) (fun _ _ _ => 0)
      case atStart => exact ⟨rfl, rfl, hb1⟩
      case round =>
        obtain ⟨rfl, rfl, hb⟩ := hrel
        go_wp2_with fail
        go_ret
        exact ⟨_, rfl, World.ownsRow_nil _ _ _ _, hb⟩
  · have hpn' : p < n := by omega
    obtain ⟨bk, off, rfl, hbl, _⟩ := HA.out p (by rw [HN.out]; exact hpn')
    have hcp : ¬ (c = p) := by omega
    have HPN := Lib.hid hpn'
    have hnp : p ≤ n := hpl
    clear hpn
    go_enter Try.func25, Try.ntmps25
    go_wp2_with (go_at_call 30; (with_reducible refine HPL.out.mono ?_); rintro e w1 ⟨rfl, hb1⟩)
    go_loopw [5, 6, 15] (fun v nv iv wr => ∃ (i : Nat) (out : List Rg) (nx : Int), iv = .int .i64 i ∧ nv = .int .i64 nx ∧ i ≤ n - p ∧ Hid (glA s (l.take (p + i)) = (out, nx)) ∧ wr.ownsRow w.heap.size 44 3 v out.length (rcl out) ∧ Below w.heap.size w wr) (fun _ _ iv _ => n - p - (intOf iv).toNat)
    case atStart => exact ⟨0, [], 1, rfl, rfl, by omega, Lib.hid HG0.out, World.ownsRow_nil _ _ _ _, hb1⟩
    case round =>
      obtain ⟨i, out, nx, rfl, rfl, hi, HST, hown, hb⟩ := hrel
      have hs := hb.size
      obtain ⟨b1, b2, b3⟩ := HBD.out (p + i) (by rw [HN.out]; omega)
      rw [HST.out] at b1 b2 b3
      simp only at b1 b2 b3
      by_cases hlt : i < n - p
      · have hkl : p + i < l.length := by rw [HN.out]; omega
        obtain ⟨bq, ofq, hbq, hbm, g0, g1, g2⟩ := HA.out (p + i) hkl
        obtain ⟨rfl, rfl⟩ : bk = bq ∧ off = ofq := by injection hbq with h; injection h with h1 h2 h3; exact ⟨h1, h2⟩
        have e0 := (hb.cell (p := ⟨bk, off + (p + i) * 3, none⟩) hbl).trans g0
        have e1 := (hb.cell (p := ⟨bk, off + (p + i) * 3 + 1, none⟩) hbl).trans g1
        have e2 := (hb.cell (p := ⟨bk, off + (p + i) * 3 + 2, none⟩) hbl).trans g2
        rw [Nat.add_mul, ← Nat.add_assoc] at e0 e1 e2
        obtain ⟨⟨ys, yf, yt⟩, hp⟩ : ∃ z, l.getD (p + i) rg0 = z := ⟨_, rfl⟩
        rw [hp] at e0 e1 e2
        simp only at e0 e1 e2
        obtain ⟨j1, j2, j3, j4, j5⟩ := HCG.out (p + i) _ _ _ hkl hp
        have hge := HFR.out (p + i) _ hkl hp (by omega)
        simp only at hge
        have HSS := Lib.hid (gl_step hkl hp HST.out)
        have HRS := Lib.hid (fun h => gl_rest (s := s) HL.out hkl hp h)
        have hlt' : (i : Int) < ((n - p : Nat) : Int) := by omega
        have hbY : Below w.heap.size w (wr.alloc (.cells #[.int .i64 ys, .int .i64 yf, .int .i64 yt] 44)) := hb.alloc hs _
        have HBY := Lib.hid hbY
        obtain ⟨y0, y1, y2⟩ := (Blk.new wr 44 #[.int .i64 ys, .int .i64 yf, .int .i64 yt]).three
        have HOWN := Lib.hid (hown.alloc (.cells #[.int .i64 ys, .int .i64 yf, .int .i64 yt] 44))
        have HSZ : Hid (w.heap.size ≤ (wr.alloc (.cells #[.int .i64 ys, .int .i64 yf, .int .i64 yt] 44)).heap.size) := Lib.hid hbY.size
        have HOL := Lib.hid b1
        have HOWN0 := Lib.hid hown
        clear g0 g1 g2 hp hkl hbY hbq hown b1
        by_cases x1 : ys = s
        · have d1 : (ys == s) = true := by simp [x1]
          by_cases x2 : nx < yf
          · have d2 : decide (nx < yf) = true := decide_eq_true x2
            have HS2 : Hid (glA s (l.take (p + i + 1)) = (out ++ [(s, nx, yf - 1)], yt + 1)) := Lib.hid (HSS.out.trans (by unfold stM; rw [if_pos x1]; simp [x2]))
            have HSRC : Hid (∀ j v, (rcl [(s, nx, yf - 1)])[j]? = some v → ((wr.alloc (.cells #[.int .i64 ys, .int .i64 yf, .int .i64 yt] 44)).alloc (.cells #[.int .i64 s, .int .i64 nx, .int .i64 (yf - 1)] 44)).cell? ((⟨wr.heap.size + 1, 0, none⟩ : Addr).add j) = some v) := Lib.hid (by
              have h := Blk.src (r := (s, nx, yf - 1)) (Blk.new (wr.alloc (.cells #[.int .i64 ys, .int .i64 yf, .int .i64 yt] 44)) 44 #[.int .i64 s, .int .i64 nx, .int .i64 (yf - 1)])
              rw [World.size_alloc] at h; exact h)
            clear x1 HSS HST HRS
            go_wp2_with (at_builtin; refine wpList_append_own _ rfl (.tmp 27) (.tmp 34) 22 rfl w.heap.size 44 i0 _ 3 24 Try.underlying22 hi0 hz0 hz1 hz2 rfl (by decide) _ _ (rcl out) rfl (World.ownsRow.alloc HOWN.out _) ⟨wr.heap.size + 1, 0, none⟩ 1 1 (rcl [(s, nx, yf - 1)]) rfl rfl (HSRC.out) (rcl_one _) (by have := HOL.out; unfold maxLen; omega) (by have := HOL.out; omega) (by simp; omega) ?_; intro v4 w4 g1 g2 _; have z2 := (((Blk.new wr 44 #[.int .i64 ys, .int .i64 yf, .int .i64 yt]).alloc (.cells #[.int .i64 s, .int .i64 nx, .int .i64 (yf - 1)] 44)).grown g2 (fun e => by have := (World.ownsRow.lt HOWN0.out _ e.symm).2; omega)).three.2.2)
            go_roundw
            case rel => exact ⟨i + 1, out ++ [(s, nx, yf - 1)], yt + 1, by go_num, rfl, by omega, HS2, by rw [rcl_app]; simpa using g1, (HBY.out.alloc HSZ.out _).grown g2 (by simp; omega) (fun q hq => (World.ownsRow.lt HOWN.out q hq).1)⟩
            case measure => simp [intOf]; omega
          · have d2 : decide (nx < yf) = false := decide_eq_false x2
            have HS2 : Hid (glA s (l.take (p + i + 1)) = (out, yt + 1)) := Lib.hid (HSS.out.trans (by unfold stM; rw [if_pos x1]; simp [x2]))
            clear x1 HSS HST HRS
            go_wp2_with fail
            go_roundw
            case rel => exact ⟨i + 1, out, yt + 1, by go_num, rfl, by omega, HS2, HOWN.out, HBY.out⟩
            case measure => simp [intOf]; omega
        · have d1 : (ys == s) = false := by simp [x1]
          have HR : Hid (glA s l = (out, nx)) := Lib.hid ((HRS.out (by show s < ys; omega)).trans HST.out)
          rw [HR.out]
          clear x1 HSS HST HRS
          go_wp2_with fail
          go_ret
          exact ⟨u5, rfl, by rw [HR.out]; exact HOWN.out, HBY.out⟩
      · have HR : Hid (glA s l = (out, nx)) := Lib.hid (by
          have h := HST.out
          rw [show p + i = n by omega, ← HN.out, List.take_length] at h
          exact h)
        rw [HR.out]
        go_wp2_with fail
        go_ret
        exact ⟨u5, rfl, by rw [HR.out]; exact hown, hb⟩
set_option maxRecDepth 100000 in
set_option maxHeartbeats 8000000 in
theorem refMissing_any (A : Option Addr) (n c : Nat) (l : List Rg) (s : Int) (w : World) (hl : Can l) (h6 : n ≤ 1000000) (hA : RgR w A l) (hn : l.length = n) (hc : n ≤ c) (hm : c ≤ maxLen) :
    Calls Try.prog 26 #[.slice A n c, .int .i64 s] w (OwnOut (glA s l).1.length (glA s l).1 w) := by
  obtain ⟨i0, hi0, hz0, hz1, hz2⟩ := info_parts rangeInfo
  unfold maxLen at hm
  have HA := Lib.hid hA; have HN := Lib.hid hn
  have HBD := Lib.hid (gl_bound (s := s) hl)
  have HCG := Lib.hid (fun k s f t (h : k < l.length) (e : l.getD k rg0 = (s, f, t)) => can_get hl h e)
  clear hA hn hl
  go_enter Try.func26, Try.ntmps26
  go_wp2_with fail
  go_loopw [5, 6, 7] (fun v nv iv wr => ∃ (i : Nat) (out : List Rg) (nx : Int), iv = .int .i64 i ∧ nv = .int .i64 nx ∧ i ≤ n ∧ Hid (glA s (l.take i) = (out, nx)) ∧ wr.ownsRow w.heap.size 44 3 v out.length (rcl out) ∧ Below w.heap.size w wr) (fun _ _ iv _ => n - (intOf iv).toNat)
  case atStart => exact ⟨0, [], 1, rfl, rfl, by omega, Lib.hid rfl, World.ownsRow_nil _ _ _ _, Below.refl _ _⟩
  case round =>
    obtain ⟨i, out, nx, rfl, rfl, hi, HST, hown, hb⟩ := hrel
    have hs := hb.size
    obtain ⟨b1, b2, b3⟩ := HBD.out i (by rw [HN.out]; omega)
    rw [HST.out] at b1 b2 b3
    simp only at b1 b2 b3
    by_cases hlt : i < n
    · have hkl : i < l.length := by rw [HN.out]; omega
      obtain ⟨bk, off, rfl, hbl, g0, g1, g2⟩ := HA.out i hkl
      have e0 := (hb.cell (p := ⟨bk, off + i * 3, none⟩) hbl).trans g0
      have e1 := (hb.cell (p := ⟨bk, off + i * 3 + 1, none⟩) hbl).trans g1
      have e2 := (hb.cell (p := ⟨bk, off + i * 3 + 2, none⟩) hbl).trans g2
      obtain ⟨⟨ys, yf, yt⟩, hp⟩ : ∃ z, l.getD i rg0 = z := ⟨_, rfl⟩
      rw [hp] at e0 e1 e2 g2
      simp only at e0 e1 e2 g2
      obtain ⟨j1, j2, j3, j4, j5⟩ := HCG.out i _ _ _ hkl hp
      have HSS := Lib.hid (gl_step hkl hp HST.out)
      have hlt' : (i : Int) < (n : Int) := by omega
      have HOWN := Lib.hid hown
      have HOL := Lib.hid b1
      have HG2 := Lib.hid g2; have HB := Lib.hid hb; have HBL := Lib.hid hbl
      clear g0 g1 g2 hp hkl hown b1 hb
      by_cases x1 : ys = s
      · have d1 : (ys == s) = true := by simp [x1]
        by_cases x2 : nx < yf
        · have d2 : decide (nx < yf) = true := decide_eq_true x2
          have HS2 : Hid (glA s (l.take (i + 1)) = (out ++ [(s, nx, yf - 1)], yt + 1)) := Lib.hid (HSS.out.trans (by unfold stM; rw [if_pos x1]; simp [x2]))
          have HSRC := Lib.hid (Blk.src (r := (s, nx, yf - 1)) (Blk.new wr 44 #[.int .i64 s, .int .i64 nx, .int .i64 (yf - 1)]))
          have HBA : Hid (Below w.heap.size w (wr.alloc (.cells #[.int .i64 s, .int .i64 nx, .int .i64 (yf - 1)] 44))) := Lib.hid (HB.out.alloc hs _)
          clear x1 HSS HST
          go_wp2_with (at_builtin; refine wpList_append_own _ rfl (.tmp 28) (.tmp 38) 22 rfl w.heap.size 44 i0 _ 3 24 Try.underlying22 hi0 hz0 hz1 hz2 rfl (by decide) _ _ (rcl out) rfl (World.ownsRow.alloc HOWN.out _) ⟨wr.heap.size, 0, none⟩ 1 1 (rcl [(s, nx, yf - 1)]) rfl rfl (HSRC.out) (rcl_one _) (by have := HOL.out; unfold maxLen; omega) (by have := HOL.out; omega) (by simp; omega) ?_; intro v4 w4 g1 g2 _; have HB4 : Hid (Below w.heap.size w w4) := Lib.hid (HBA.out.grown g2 (by simp; omega) (fun q hq => (World.ownsRow.lt HOWN.out q hq).1)); have z2 := (HB4.out.cell (p := ⟨bk, off + i * 3 + 2, none⟩) HBL.out).trans HG2.out)
          go_roundw
          case rel => exact ⟨i + 1, out ++ [(s, nx, yf - 1)], yt + 1, by go_num, rfl, by omega, HS2, by rw [rcl_app]; simpa using g1, HB4.out⟩
          case measure => simp [intOf]; omega
        · have d2 : decide (nx < yf) = false := decide_eq_false x2
          have HS2 : Hid (glA s (l.take (i + 1)) = (out, yt + 1)) := Lib.hid (HSS.out.trans (by unfold stM; rw [if_pos x1]; simp [x2]))
          clear x1 HSS HST
          go_wp2_with fail
          go_roundw
          case rel => exact ⟨i + 1, out, yt + 1, by go_num, rfl, by omega, HS2, HOWN.out, HB.out⟩
          case measure => simp [intOf]; omega
      · have d1 : (ys == s) = false := by simp [x1]
        have HS2 : Hid (glA s (l.take (i + 1)) = (out, nx)) := Lib.hid (HSS.out.trans (by unfold stM; rw [if_neg x1]))
        clear x1 HSS HST
        go_wp2_with fail
        go_roundw
        case rel => exact ⟨i + 1, out, nx, by go_num, rfl, by omega, HS2, HOWN.out, HB.out⟩
        case measure => simp [intOf]; omega
    · obtain rfl : i = n := by omega
      have HR : Hid (glA s l = (out, nx)) := Lib.hid (by
        have h := HST.out
        rw [← HN.out, List.take_length] at h
        exact h)
      rw [HR.out]
      go_wp2_with fail
      go_ret
      exact ⟨u5, rfl, by rw [HR.out]; exact hown, hb⟩
end Go.Proofs.Ytgobbeommjjlfaa
