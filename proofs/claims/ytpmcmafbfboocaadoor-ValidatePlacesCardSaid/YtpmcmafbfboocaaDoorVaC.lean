/- Walks: the closures of validate.All and of records.Divide. -/
import Derived.Test.YtpmcmafbfboocaaDoorVaD
import Derived.Test.YtpmcmafbfboocaaDoorRcChk
import Derived.Test.YtpmcmafbfboocaaDoorRcErr
import Derived.Deep.RegionWith
namespace Go.Proofs.YtpmcmafbfboocaaDoor.Va
open Go.RowKit

/-- The error of a record in a window. -/
def winE (r : Rc) (lo hi : Int) : Int := if r.s5 < lo ∨ hi < r.s5 then 15 else 0
def allE (r : Rc) (lo hi : Int) : Int := if chkR r ≠ 0 then chkR r else winE r lo hi
theorem window_any (r : Rc) (lo hi : Int) (w : World) : Calls Tryd.prog 12 #[.agg r.cells, .agg #[.int .i64 lo, .int .i64 hi]] w fun e w' => e = .returned (.int .i64 (winE r lo hi)) ∧ Below w.heap.size w w' := by
  have hf : Below w.heap.size w ((w.alloc (.cells r.cells 23)).alloc (.cells #[.int .i64 lo, .int .i64 hi] 25)) := ((Below.refl _ w).alloc (Nat.le_refl _) _).alloc (by simp) _
  obtain ⟨s0, s1, s2, sa, sb, s5, s6, s7, s8, b9, s10, b11⟩ := r
  simp only [winE]
  unfold Rc.cells at *
  simp only at *
  by_cases h1 : s5 < lo
  · have d1 : decide (s5 < lo) = true := decide_eq_true h1
    rw [if_pos (.inl h1)]
    go_enter Tryd.func12, Tryd.ntmps12
    go_wp2
    go_ret
    exact ⟨rfl, hf⟩
  · have d1 : decide (s5 < lo) = false := decide_eq_false h1
    by_cases h2 : hi < s5
    · have d2 : decide (hi < s5) = true := decide_eq_true h2
      rw [if_pos (.inr h2)]
      go_enter Tryd.func12, Tryd.ntmps12
      go_wp2
      go_ret
      exact ⟨rfl, hf⟩
    · have d2 : decide (hi < s5) = false := decide_eq_false h2
      rw [if_neg (by omega)]
      go_enter Tryd.func12, Tryd.ntmps12
      go_wp2
      go_ret
      exact ⟨rfl, hf⟩
theorem refWindow_any (r : Rc) (lo hi : Int) (w : World) : Calls Tryd.prog 13 #[.agg r.cells, .agg #[.int .i64 lo, .int .i64 hi]] w fun e w' => e = .returned (.int .i64 (winE r lo hi)) ∧ Below w.heap.size w w' := by
  have hf : Below w.heap.size w ((w.alloc (.cells r.cells 23)).alloc (.cells #[.int .i64 lo, .int .i64 hi] 25)) := ((Below.refl _ w).alloc (Nat.le_refl _) _).alloc (by simp) _
  obtain ⟨s0, s1, s2, sa, sb, s5, s6, s7, s8, b9, s10, b11⟩ := r
  simp only [winE]
  unfold Rc.cells at *
  simp only at *
  by_cases h1 : s5 < lo
  · have d1 : decide (s5 < lo) = true := decide_eq_true h1
    rw [if_pos (.inl h1)]
    go_enter Tryd.func13, Tryd.ntmps13
    go_wp2
    go_ret
    exact ⟨rfl, hf⟩
  · have d1 : decide (s5 < lo) = false := decide_eq_false h1
    by_cases h2 : hi < s5
    · have d2 : decide (hi < s5) = true := decide_eq_true h2
      rw [if_pos (.inr h2)]
      go_enter Tryd.func13, Tryd.ntmps13
      go_wp2
      go_ret
      exact ⟨rfl, hf⟩
    · have d2 : decide (hi < s5) = false := decide_eq_false h2
      rw [if_neg (by omega)]
      go_enter Tryd.func13, Tryd.ntmps13
      go_wp2
      go_ret
      exact ⟨rfl, hf⟩
theorem vCheck_any (r : Rc) (ha : r.sa.size ≤ maxLen) (hb : r.sb.size ≤ maxLen) (w : World) :
    Calls Tryd.prog 10 #[.agg r.cells] w fun e w' => e = .returned (.int .i64 (chkR r)) ∧ Below w.heap.size w w' := by
  have HC := Lib.hid (check_any r ha hb)
  unfold Rc.cells at HC ⊢
  clear ha hb
  go_enter Tryd.func10, Tryd.ntmps10
  go_wp2_with (go_at_call 23; (with_reducible refine (HC.out _).mono ?_); rintro e w1 ⟨rfl, hb1⟩)
  go_ret
  exact ⟨rfl, ((Below.refl _ _).alloc (Nat.le_refl _) _).trans (hb1.mono (by simp))⟩
theorem vRefCheck_any (r : Rc) (ha : r.sa.size ≤ maxLen) (hb : r.sb.size ≤ maxLen) (w : World) :
    Calls Tryd.prog 11 #[.agg r.cells] w fun e w' => e = .returned (.int .i64 (chkR r)) ∧ Below w.heap.size w w' := by
  have HC := Lib.hid (refErr_any r ha hb)
  unfold Rc.cells at HC ⊢
  clear ha hb
  go_enter Tryd.func11, Tryd.ntmps11
  go_wp2_with (go_at_call 24; (with_reducible refine (HC.out _).mono ?_); rintro e w1 ⟨rfl, hb1⟩)
  go_ret
  exact ⟨rfl, ((Below.refl _ _).alloc (Nat.le_refl _) _).trans (hb1.mono (by simp))⟩
set_option maxRecDepth 100000 in
set_option maxHeartbeats 4000000 in
theorem all1_any (r : Rc) (ha : r.sa.size ≤ maxLen) (hb : r.sb.size ≤ maxLen) (lo hi : Int) (q : Nat) (w : World) (hQ : Blk w q 25 #[.int .i64 lo, .int .i64 hi]) :
    Calls Tryd.prog 26 #[.agg r.cells, .pointer (some ⟨q, 0, none⟩)] w fun e w' => e = .returned (.int .i64 (allE r lo hi)) ∧ Below w.heap.size w w' := by
  have HC := Lib.hid (vCheck_any r ha hb)
  have HW := Lib.hid (window_any r lo hi)
  have hb0 : Below w.heap.size w (w.alloc (.cells r.cells 23)) := (Below.refl _ w).alloc (Nat.le_refl _) _
  have HB0 := Lib.hid hb0
  have HB : Hid (RcB (w.alloc (.cells r.cells 23)) w.heap.size r) := Lib.hid (heap_alloc_new w _)
  have HQ := Lib.hid (hQ.below hb0 hQ.lt)
  have HQL := Lib.hid hQ.lt
  have HAL : Hid (∀ x, chkR r = x → (if x ≠ 0 then x else winE r lo hi) = allE r lo hi) := Lib.hid (fun x h => by subst h; rfl)
  obtain ⟨x, hx⟩ : ∃ x, chkR r = x := ⟨_, rfl⟩
  rw [hx] at HC
  have HAX := Lib.hid (HAL.out x hx)
  obtain ⟨y, hy⟩ : ∃ y, winE r lo hi = y := ⟨_, rfl⟩
  rw [hy] at HW HAX
  obtain ⟨z, hz⟩ : ∃ z, allE r lo hi = z := ⟨_, rfl⟩
  rw [hz] at HAX ⊢
  obtain ⟨s0, s1, s2, sa, sb, s5, s6, s7, s8, b9, s10, b11⟩ := r
  obtain ⟨L, hL⟩ : ∃ L, w.alloc (.cells #[.int .i64 s0, .int .i64 s1, .int .i64 s2, .string sa, .string sb, .int .i64 s5, .int .i64 s6, .int .i64 s7, .int .i64 s8, .bool b9, .int .i64 s10, .bool b11] 23) = L := ⟨_, rfl⟩
  unfold Rc.cells at HB0 HB HQ HC HW ⊢
  simp only at HB0 HB HQ HC HW ⊢
  rw [hL] at HB0 HB HQ
  obtain ⟨c0, c1, c2, c3, c4, c5, c6, c7, c8, c9, c10, c11⟩ := HB.out.cells
  obtain ⟨q0, q1⟩ := HQ.out.two
  have HSL : Hid (w.heap.size < L.heap.size) := Lib.hid (by rw [← hL]; simp)
  clear ha hb hQ hb0 HAL hx hy hz
  by_cases hx0 : x = 0
  · subst hx0
    obtain rfl : y = z := by simpa using HAX.out
    go_enter Tryd.func26, Tryd.ntmps26
    go_wp2_with (first
      | (go_at_call 10; (with_reducible refine (HC.out _).mono ?_); rintro e w1 ⟨rfl, hb1⟩; have HB1 := Lib.hid (HB0.out.trans (hb1.mono HB0.out.size)); clear c0 c1 c2 c3 c4 c5 c6 c7 c8 c9 c10 c11 q0 q1; obtain ⟨c0, c1, c2, c3, c4, c5, c6, c7, c8, c9, c10, c11⟩ := (HB.out.below hb1 HSL.out).cells; obtain ⟨q0, q1⟩ := (HQ.out.below hb1 HQ.out.lt).two; clear hb1)
      | (go_at_call 12; (with_reducible refine (HW.out _).mono ?_); rintro e w2 ⟨rfl, hb2⟩; have HB2 := Lib.hid (HB1.out.trans (hb2.mono HB1.out.size)); clear hb2))
    go_ret
    exact ⟨rfl, HB2.out⟩
  · have hxq : (x == 0) = false := by simp [hx0]
    obtain rfl : x = z := by have := HAX.out; rw [if_pos hx0] at this; exact this
    clear hx0
    go_enter Tryd.func26, Tryd.ntmps26
    go_wp2_with (first
      | (go_at_call 10; (with_reducible refine (HC.out _).mono ?_); rintro e w1 ⟨rfl, hb1⟩; have HB1 := Lib.hid (HB0.out.trans (hb1.mono HB0.out.size)); clear hb1))
    go_ret
    exact ⟨rfl, HB1.out⟩
end Go.Proofs.YtpmcmafbfboocaaDoor.Va
