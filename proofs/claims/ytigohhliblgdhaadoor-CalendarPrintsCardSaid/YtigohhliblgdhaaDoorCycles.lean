/- Walks: the cycle of an instant and the cycles of a period, in the program. -/
import Derived.Test.YtigohhliblgdhaaDoorCyc
import Derived.Deep.AppendLies
import Derived.Deep.Onto
import Derived.Lib.BufferRead
namespace Go.Proofs.YtigohhliblgdhaaDoor
open Go.RowKit

theorem periodInfo : (Tryd.prog.info? 37).map (fun i => (i.zero, i.size, i.bytes)) = some (some (.agg #[.int .i64 0, .int .i64 0]), 2, 16) := by kernel_rfl
theorem own_below {w w' : World} {base : Nat} {e : TypeId} {size : Nat} {v : Value} {n : Nat} {xs : List Value} (h : w.ownsRow base e size v n xs) (hb : Below w.heap.size w w') : w'.ownsRow base e size v n xs := by
  obtain ⟨h1, h2⟩ := h
  refine ⟨h1, ?_⟩
  rcases h2 with h2 | ⟨g, cap, cur, hv, hg, hh, r⟩
  · exact .inl h2
  · refine .inr ⟨g, cap, cur, hv, hg, (hb.block g ?_).trans hh, r⟩
    rcases Nat.lt_or_ge g w.heap.size with hlt | hge
    · exact hlt
    · rw [Array.getElem?_eq_none hge] at hh; cases hh
theorem Blk.grown {w w' : World} {row : Option Nat} {g : Nat} {t : TypeId} {cs : Array Value} (h : Blk w g t cs) (hb : w.grownBy w' row) (hg : some g ≠ row) : Blk w' g t cs := (hb.block g h.lt hg).trans h
theorem Blk.alloc {w : World} {g : Nat} {t : TypeId} {cs : Array Value} (h : Blk w g t cs) (o : Obj) : Blk (w.alloc o) g t cs := (Below.heap_alloc w o g h.lt).trans h
theorem own_not {w : World} {base : Nat} {e : TypeId} {size : Nat} {v : Value} {n : Nat} {xs : List Value} (h : w.ownsRow base e size v n xs) {g : Nat} (hg : g < base) : some g ≠ v.ownBlock := fun e => by
  have := (World.ownsRow.lt h g e.symm).1
  omega
theorem drew_below {w w1 : World} (h : Below w.drew.heap.size w.drew w1) : Below w.heap.size w w1 := ⟨h.os, h.tape, h.output, h.size, h.block⟩
theorem own_drew {w : World} {base : Nat} {e : TypeId} {size : Nat} {v : Value} {n : Nat} {xs : List Value} (h : w.ownsRow base e size v n xs) (k : Nat) : (w.drewN k).ownsRow base e size v n xs := h
/-- A new block of one pair. -/
theorem cell_two_new' (w : World) (x y : Int) (e : TypeId) : ∀ j u, [Value.int .i64 x, .int .i64 y][j]? = some u → (w.alloc (.cells #[.int .i64 x, .int .i64 y] e)).cell? ((⟨w.heap.size, 0, none⟩ : Addr).add j) = some u := by
  intro j u hu
  have ha : ((⟨w.heap.size, 0, none⟩ : Addr).add j) = ⟨w.heap.size, j, none⟩ := by unfold Addr.add; split <;> simp_all
  rw [ha, cell_of_row _ _ _ _ _ (0, 0) (heap_alloc_new _ _)]
  simpa using hu

set_option maxHeartbeats 1000000 in
theorem cycle_in (a t : Int) (w : World) (ha : 1 ≤ a) (ha2 : a ≤ 28) (ht : 0 ≤ t) (ht2 : t < 12622780800) :
    Calls Tryd.prog 20 #[.int .i64 a, .int .i64 t] w fun e w' => e = .returned (.agg #[.int .i64 (st a (mon a t)), .int .i64 (st a (mon a t + 1))]) ∧ Below w.heap.size w w' := by
  obtain ⟨h3, h4, _, _⟩ := mon_spec a t ha ha2 ht ht2
  have H0 := Lib.hid (fun w => anchor_yes a w ha ha2)
  have H1 := Lib.hid (fun w => monthOf_any a t w ha ha2 ht ht2)
  have H2 := Lib.hid (fun w => cycle1_any a (mon a t) w ha ha2 h3 (by omega))
  generalize mon a t = M at *
  obtain ⟨x, hx⟩ : ∃ x, st a M = x := ⟨_, rfl⟩
  obtain ⟨y, hy⟩ : ∃ y, st a (M + 1) = y := ⟨_, rfl⟩
  rw [hx, hy] at H2 ⊢
  clear hx hy
  have h1' : ¬ t < 0 := by omega
  have h2' : ¬ 12622780800 ≤ t := by omega
  have HB := Lib.hid (Blk.new w 37 #[.int .i64 0, .int .i64 0])
  go_enter Tryd.func20, Tryd.ntmps20
  go_wp2_with fail
  refine (H0.out _).mono ?_
  rintro e w0 ⟨rfl, rfl⟩
  go_wp2_with fail
  refine (H1.out _).mono ?_
  rintro e w1 ⟨rfl, hb1⟩
  go_wp2_with fail
  refine (H2.out _).mono ?_
  rintro e w2 ⟨rfl, hb2⟩
  have hb3 : Below (w.alloc (.cells #[.int .i64 0, .int .i64 0] 37)).heap.size (w.alloc (.cells #[.int .i64 0, .int .i64 0] 37)) w2 := hb1.trans (hb2.mono hb1.size)
  have hB := HB.out.below hb3 (by simp)
  have c0 := hB.cell 0
  have c1 := hB.cell 1
  have f0 := hB.frozen 0
  have f1 := hB.frozen 1
  simp only [List.getElem?_toArray, List.getElem?_cons_zero, List.getElem?_cons_succ] at c0 c1
  have hg := hB.lt
  have hb4 : Below w.heap.size w w2 := ((Below.refl _ w).alloc (Nat.le_refl _) _).trans (hb3.mono (by simp))
  clear hB hb1 hb2 hb3
  go_wp2
  exact bodyPost_ret (v := .agg #[.int .i64 x, .int .i64 y]) (by simp [results, Tryd.results20, go_sem, c0, c1, f0, f1]) rfl ⟨rfl, (hb4.setCell (by simp) _).setCell (by simp) _⟩
set_option maxHeartbeats 1000000 in
theorem cycle_out (a t : Int) (w : World) (h : okA a = false ∨ (okA a = true ∧ okT t = false)) :
    Calls Tryd.prog 20 #[.int .i64 a, .int .i64 t] w fun e w' => e = .returned (.agg #[.int .i64 0, .int .i64 0]) ∧ Below w.heap.size w w' := by
  rcases h with h | ⟨h, h2⟩
  · have H0 := Lib.hid (fun w => anchor_no a w (okA_no h))
    clear h
    go_enter Tryd.func20, Tryd.ntmps20
    go_wp2_with (go_at_call 38; refine (H0.out _).mono ?_; rintro e w0 ⟨rfl, rfl⟩)
    exact bodyPost_ret (v := .agg #[.int .i64 0, .int .i64 0]) (by simp [results, Tryd.results20, go_sem]) rfl ⟨rfl, (Below.refl _ _).alloc (Nat.le_refl _) _⟩
  · obtain ⟨ha, ha2⟩ := okA_iff.1 h
    have H0 := Lib.hid (fun w => anchor_yes a w ha ha2)
    clear h
    rcases okT_no h2 with h3 | ⟨h3, h4⟩
    all_goals
      clear h2
      go_enter Tryd.func20, Tryd.ntmps20
      go_wp2_with (go_at_call 38; refine (H0.out _).mono ?_; rintro e w0 ⟨rfl, rfl⟩)
      exact bodyPost_ret (v := .agg #[.int .i64 0, .int .i64 0]) (by simp [results, Tryd.results20, go_sem]) rfl ⟨rfl, (Below.refl _ _).alloc (Nat.le_refl _) _⟩

/-- How many cycles a period touches. -/
def cnt (a f t : Int) : Nat := (mon a (t - 1) - mon a f + 1).toNat
set_option maxHeartbeats 4000000 in
theorem cycles_in (a f t : Int) (w : World) (ha : 1 ≤ a) (ha2 : a ≤ 28) (hf : 0 ≤ f) (hft : f < t) (ht : t ≤ 12622780800) :
    Calls Tryd.prog 24 #[.int .i64 a, .agg #[.int .i64 f, .int .i64 t]] w fun e w' => ∃ v, e = .returned v ∧ w'.ownsRow w.heap.size 37 2 v (cnt a f t) (cyc a (mon a f) (cnt a f t)) ∧ Below w.heap.size w w' := by
  obtain ⟨i0, hi0, hz0, hz1, hz2⟩ := info_parts periodInfo
  obtain ⟨h3, h4, h5, h6⟩ := mon_spec a f ha ha2 hf (by omega)
  obtain ⟨g3, g4, g5, g6⟩ := mon_spec a (t - 1) ha ha2 (by omega) (by omega)
  have hmm := mon_mono a f (t - 1) ha ha2 hf (by omega) (by omega)
  have hlt : ∀ k : Int, -1 ≤ k → k ≤ mon a (t - 1) → st a k < t := fun k _ hk => by have := st_le a k _ ha ha2 hk; omega
  have hge : t ≤ st a (mon a (t - 1) + 1) := by omega
  have HN : Hid ((cnt a f t : Int) = mon a (t - 1) - mon a f + 1) := by show (cnt a f t : Int) = _; unfold cnt; omega
  have H0 := Lib.hid (fun w => anchor_yes a w ha ha2)
  have H1 := Lib.hid (fun w => monthOf_any a f w ha ha2 hf (by omega))
  generalize cnt a f t = N at HN ⊢
  generalize mon a f = M at *
  generalize mon a (t - 1) = M2 at *
  have H2 := Lib.hid (fun (k : Int) (h1 : -1 ≤ k) (h2 : k ≤ 4800) w => start_any a k w ha ha2 (by omega) (by omega))
  have H3 := Lib.hid (fun (k : Int) (h1 : -1 ≤ k) (h2 : k ≤ 4800) w => cycle1_any a k w ha ha2 h1 h2)
  have HL := Lib.hid hlt; have HG := Lib.hid hge
  have hf0 : decide (f < 0) = false := decide_eq_false (by omega)
  have hf1 : decide (t ≤ f) = false := decide_eq_false (by omega)
  have hf2 : decide (12622780800 < t) = false := decide_eq_false (by omega)
  have HB := Lib.hid (Blk.new w 37 #[.int .i64 f, .int .i64 t])
  have sb := fun k => st_bd a k ha ha2
  have HSB := Lib.hid sb
  clear hlt hge sb h5 h6 g5 g6
  go_enter Tryd.func24, Tryd.ntmps24
  go_wp2_with fail
  refine (H0.out _).mono ?_
  rintro e w0 ⟨rfl, rfl⟩
  go_wp2_with fail
  refine (H1.out _).mono ?_
  rintro e w1 ⟨rfl, hb1⟩
  have hB := HB.out.below hb1 (by simp)
  have hb4 : Below w.heap.size w w1 := ((Below.refl _ w).alloc (Nat.le_refl _) _).trans (hb1.mono (by simp))
  have hg := hB.lt
  clear hb1
  go_wp2
  go_loopw [5, 6] (fun v i wr => ∃ j : Nat, M + j ≤ M2 + 1 ∧ i = .int .i64 (M + j) ∧ wr.ownsRow (w.heap.size + 1) 37 2 v j (cyc a M j) ∧ Below w.heap.size w wr ∧ Blk wr w.heap.size 37 #[.int .i64 f, .int .i64 t]) (fun _ i _ => (M2 + 1 - intOf i).toNat)
  case atStart => exact ⟨0, by omega, by simp, World.ownsRow_nil _ _ _ _, hb4, hB⟩
  case round =>
    clear hb4 hB hg
    obtain ⟨j, hj, rfl, hown, hb, hB⟩ := hrel
    obtain ⟨k, hk⟩ : ∃ k : Int, M + j = k := ⟨_, rfl⟩
    have c1 := hB.cell 1
    simp only [List.getElem?_toArray, List.getElem?_cons_zero, List.getElem?_cons_succ] at c1
    have hg := hB.lt
    have hs1 := hb.size
    have HBl := Lib.hid hB
    have HS := Lib.hid (H2.out k (by omega) (by omega))
    have HT := Lib.hid (H3.out k (by omega) (by omega))
    have HCS := cyc_step a M j
    rw [hk] at HCS ⊢
    have hlt : k ≤ M2 → st a k < t := fun h => HL.out k (by omega) h
    have hge : ¬ k ≤ M2 → t ≤ st a k := fun h => by have := HG.out; rw [show M2 + 1 = k by omega] at this; exact this
    have hxb := HSB.out k
    obtain ⟨x, hx⟩ : ∃ x, st a k = x := ⟨_, rfl⟩
    obtain ⟨y, hy⟩ : ∃ y, st a (k + 1) = y := ⟨_, rfl⟩
    rw [hx] at HS HT hlt hge HCS hxb
    rw [hy] at HT HCS
    have HC2 := Lib.hid HCS
    have HK := Lib.hid hk
    have hk0 : -1 ≤ k := by omega
    clear hx hy HCS hB hk
    by_cases hkm : k ≤ M2
    · have hlt' := hlt hkm
      clear hlt hge
      go_wp2
      go_region_held3 (fun w' => w'.cell? ⟨w.heap.size, 1, none⟩ = some (.int .i64 t)) (go_keep)
        (first | (go_at_call 41; refine (HS.out _).mono ?_; rintro e w2 ⟨rfl, hb2⟩; have hc2 : w2.cell? ⟨w.heap.size, 1, none⟩ = some (.int .i64 t) := (hb2.cell (p := ⟨w.heap.size, 1, none⟩) hg).trans c1))
      replace hb2 := drew_below hb2
      have hown2 := own_below hown hb2
      have hbb2 : Below w.heap.size w w2 := hb.trans (hb2.mono hs1)
      have hB2 : Blk w2 w.heap.size 37 #[.int .i64 f, .int .i64 t] := HBl.out.below hb2 hg
      have hg2 := hB2.lt
      have hsz2 := hbb2.size
      clear hb2 hc2 c1 hown HBl hb hg hs1
      go_wp2_with fail
      refine (HT.out _).mono ?_
      rintro e w3 ⟨rfl, hb3⟩
      have hown3 := own_below hown2 hb3
      have hbb3 : Below w.heap.size w w3 := hbb2.trans (hb3.mono hsz2)
      have hB3 := hB2.below hb3 hg2
      have hg3 := hB3.lt
      have hsz3 := hbb3.size
      clear hb3 hown2 hbb2 hB2 hg2 hsz2
      go_wp2_with (at_builtin; refine wpList_append_own _ rfl (.tmp 39) (.tmp 43) 41 rfl (w.heap.size + 1) 37 i0 (.agg #[.int .i64 0, .int .i64 0]) 2 16 Tryd.underlying41 hi0 hz0 hz1 hz2 rfl (by decide) _ _ _ rfl (World.ownsRow.alloc hown3 _) ⟨w3.heap.size, 0, none⟩ 1 1 [.int .i64 x, .int .i64 y] rfl rfl (cell_two_new' _ _ _ _) (by intro u hu; simp at hu; rcases hu with rfl | rfl <;> rfl) (by unfold maxLen; omega) (by omega) (by simp; omega) ?_; intro v4 w4 hown4 hg4 _)
      have hb5 : Below w.heap.size w w4 := (hbb3.alloc hsz3 _).grown hg4 (by simp; omega) (fun g hg' => by have := (World.ownsRow.lt hown3 g hg').1; omega)
      have hB5 := (hB3.alloc (.cells #[.int .i64 x, .int .i64 y] 37)).grown hg4 (own_not hown3 (by omega))
      go_roundw
      case rel => exact ⟨j + 1, by have := HK.out; omega, by rw [← HK.out]; exact congrArg (Value.int .i64) (by omega), by rw [HC2.out]; simpa using hown4, hb5, hB5⟩
      case measure => simp [intOf]; omega
    · have hge' := hge hkm
      have hx' : ¬ x < t := by omega
      clear hlt hge
      go_wp2
      go_region_held3 (fun w' => w'.cell? ⟨w.heap.size, 1, none⟩ = some (.int .i64 t)) (go_keep)
        (first | (go_at_call 41; refine (HS.out _).mono ?_; rintro e w2 ⟨rfl, hb2⟩; have hc2 : w2.cell? ⟨w.heap.size, 1, none⟩ = some (.int .i64 t) := (hb2.cell (p := ⟨w.heap.size, 1, none⟩) hg).trans c1))
      replace hb2 := drew_below hb2
      have hown2 := own_below hown hb2
      have hbb2 : Below w.heap.size w w2 := hb.trans (hb2.mono hs1)
      have hjN : j = N := by have := HN.out; have := HK.out; omega
      subst hjN
      have HO := Lib.hid (hown2.mono (Nat.le_succ _))
      have HBB := Lib.hid hbb2
      clear hb2 hc2 c1 hown HBl hb hg hs1 hown2 hbb2
      go_wp2
      go_ret
      exact ⟨_, rfl, HO.out, HBB.out⟩
end Go.Proofs.YtigohhliblgdhaaDoor
