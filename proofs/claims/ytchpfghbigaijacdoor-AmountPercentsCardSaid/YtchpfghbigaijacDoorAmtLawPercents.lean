/- Walk: the law on percentages. -/
import Derived.Test.YtchpfghbigaijacDoorAmtLawScales
namespace Go.Proofs.YtchpfghbigaijacDoor
open Go.RowKit

theorem percent_any (a p : Int) (x f : Int) (hp : ¬ p < 0 ∧ ¬ 10000 < p) (h : ∀ w, Calls Tryd.prog 20 #[.int .i64 a, .int .i64 p, .int .i64 10000] w fun e w' => e = .returned (.tuple #[.int .i64 x, .int .i64 f]) ∧ ∃ k, w' = w.drewN k) (w : World) :
    Calls Tryd.prog 8 #[.int .i64 a, .int .i64 p] w fun e w' => e = .returned (.tuple #[.int .i64 x, .int .i64 f]) ∧ ∃ k, w' = w.drewN k := by
  obtain ⟨hp1, hp2⟩ := hp
  have H := Lib.hid h; clear h
  go_enter Tryd.func8, Tryd.ntmps8
  go_wp2_with (go_at_call 20; refine (H.out _).mono ?_; rintro e w1 ⟨rfl, k, rfl⟩)
  go_ret2
  exact ⟨rfl, k, rfl⟩
theorem percent_out (a p : Int) (hp : p < 0 ∨ 10000 < p) (w : World) :
    Calls Tryd.prog 8 #[.int .i64 a, .int .i64 p] w fun e w' => e = .returned (.tuple #[.int .i64 0, .int .i64 6]) ∧ ∃ k, w' = w.drewN k := by
  rcases hp with hp | hp
  · go_enter Tryd.func8, Tryd.ntmps8
    go_wp2
    go_ret2
    exact ⟨rfl, 0, rfl⟩
  · have hp' : ¬ p < 0 := by omega
    go_enter Tryd.func8, Tryd.ntmps8
    go_wp2
    go_ret2
    exact ⟨rfl, 0, rfl⟩
theorem refPercent_any (a p : Int) (x f : Int) (hp : ¬ p < 0 ∧ ¬ 10000 < p) (h : ∀ w, Calls Tryd.prog 21 #[.int .i64 a, .int .i64 p, .int .i64 10000] w fun e w' => e = .returned (.tuple #[.int .i64 x, .int .i64 f]) ∧ ∃ k, w' = w.drewN k) (w : World) :
    Calls Tryd.prog 9 #[.int .i64 a, .int .i64 p] w fun e w' => e = .returned (.tuple #[.int .i64 x, .int .i64 f]) ∧ ∃ k, w' = w.drewN k := by
  obtain ⟨hp1, hp2⟩ := hp
  have H := Lib.hid h; clear h
  go_enter Tryd.func9, Tryd.ntmps9
  go_wp2_with (go_at_call 21; refine (H.out _).mono ?_; rintro e w1 ⟨rfl, k, rfl⟩)
  go_ret2
  exact ⟨rfl, k, rfl⟩
theorem refPercent_out (a p : Int) (hp : p < 0 ∨ 10000 < p) (w : World) :
    Calls Tryd.prog 9 #[.int .i64 a, .int .i64 p] w fun e w' => e = .returned (.tuple #[.int .i64 0, .int .i64 6]) ∧ ∃ k, w' = w.drewN k := by
  rcases hp with hp | hp
  · go_enter Tryd.func9, Tryd.ntmps9
    go_wp2
    go_ret2
    exact ⟨rfl, 0, rfl⟩
  · have hp' : ¬ p < 0 := by omega
    go_enter Tryd.func9, Tryd.ntmps9
    go_wp2
    go_ret2
    exact ⟨rfl, 0, rfl⟩

theorem percent_both (a p : Int) : ∃ x f : Int, (∀ w, Calls Tryd.prog 8 #[.int .i64 a, .int .i64 p] w fun e w' => e = .returned (.tuple #[.int .i64 x, .int .i64 f]) ∧ ∃ k, w' = w.drewN k) ∧
    (∀ w, Calls Tryd.prog 9 #[.int .i64 a, .int .i64 p] w fun e w' => e = .returned (.tuple #[.int .i64 x, .int .i64 f]) ∧ ∃ k, w' = w.drewN k) := by
  by_cases hp : p < 0 ∨ 10000 < p
  · exact ⟨0, 6, percent_out a p hp, refPercent_out a p hp⟩
  · obtain ⟨x, f, h1, h2⟩ := scale_both a p 10000
    exact ⟨x, f, percent_any a p x f (by omega) h1, refPercent_any a p x f (by omega) h2⟩

/-- A hundred percent: the amount itself. -/
theorem percent_whole (a : Int) (h : okA a = true) (w : World) :
    Calls Tryd.prog 8 #[.int .i64 a, .int .i64 10000] w fun e w' => e = .returned (.tuple #[.int .i64 a, .int .i64 0]) ∧ ∃ k, w' = w.drewN k := by
  refine percent_any a 10000 a 0 (by omega) (fun w => ?_) w
  have hm : mag a = ((mag a).toNat : Int) := by unfold mag; split <;> omega
  have hb := okA_iff.1 h
  have hmb : (mag a).toNat ≤ 1125899906842624 := by unfold mag; split <;> omega
  have hq : scaleQ (mag a).toNat 10000 10000 = (mag a).toNat := by
    unfold scaleQ
    rw [Nat.mul_mod_left, Nat.mul_div_cancel _ (by decide), if_neg (by decide)]
    rfl
  obtain ⟨e1, e2⟩ := scale_of (a := a) hq hmb
  refine (scale_good a _ 10000 10000 hm h (by decide) (by decide) (by decide) w).mono fun e w' ⟨he, hw⟩ => ⟨?_, hw⟩
  rw [he, e1, e2]
  refine ret_two ?_ rfl
  rw [← hm]
  unfold mag
  split <;> rename_i h' <;> simp [h'] <;> omega
theorem percent_none (a : Int) (h : okA a = false) (w : World) :
    Calls Tryd.prog 8 #[.int .i64 a, .int .i64 10000] w fun e w' => e = .returned (.tuple #[.int .i64 0, .int .i64 6]) ∧ ∃ k, w' = w.drewN k :=
  percent_any a 10000 0 6 (by omega) (fun w => (scale_bad a 10000 10000 (by simp [h]) w).mono fun e w' ⟨he, hw⟩ => ⟨he, 0, hw.symm⟩) w
theorem refValid_is (a : Int) (b : Bool) (h : okA a = b) (w : World) (ha : -9223372036854775808 ≤ a ∧ a ≤ 9223372036854775807) : Calls Tryd.prog 10 #[.int .i64 a] w fun e w' => e = .returned (.bool b) ∧ w = w' := by
  subst h
  exact refValid_any a w

set_option maxHeartbeats 1000000 in
theorem walkAmountPercents (a p : Int) (w : World) (wa : (Lit.int .i64 a).wf = true) (wp : (Lit.int .i64 p).wf = true) (hP : Pows w) (hz : 0 < w.heap.size) :
    Calls Tryd.prog 3 #[.int .i64 a, .int .i64 p] w fun e w' => e = .returned (.bool true) ∧ Below w.heap.size w w' := by
  have hab := i64_bounds wa
  obtain ⟨x, f, h1, h2⟩ := percent_both a p
  have H1 := Lib.hid h1; have H2 := Lib.hid h2; have HP := Lib.hid hP
  clear h1 h2 hP wp wa
  cases hok : okA a
  · have H3 := Lib.hid (percent_none a hok)
    have H4 := Lib.hid (fun w => refValid_is a false hok w hab)
    clear hok
    go_enter Tryd.func3, Tryd.ntmps3
    go_upto_region 6 with (first
      | (go_at_call 8; (with_reducible refine (H3.out _).mono ?_); rintro e w1 ⟨rfl, k3, rfl⟩)
      | (go_at_call 8; (with_reducible refine (H1.out _).mono ?_); rintro e w1 ⟨rfl, k, rfl⟩)
      | (go_at_call 9; (with_reducible refine (H2.out _).mono ?_); rintro e w1 ⟨rfl, k2, rfl⟩)
      | (go_at_call 10; (with_reducible refine (H4.out _).mono ?_); rintro e w1 ⟨rfl, rfl⟩))
    have HP1 := Lib.hid (fun n => HP.out.below hz (below_drewN (Below.refl w.heap.size w) n))
    go_wp2_with (go_at_call 11; refine (awake_any _ (HP1.out _) hz).mono ?_; rintro e w4 ⟨rfl, hb4⟩)
    go_ret
    exact ⟨rfl, (below_drewN (Below.refl _ w) _).trans hb4⟩
  · have H3 := Lib.hid (percent_whole a hok)
    have H4 := Lib.hid (fun w => refValid_is a true hok w hab)
    clear hok
    go_enter Tryd.func3, Tryd.ntmps3
    go_upto_region 6 with (first
      | (go_at_call 8; (with_reducible refine (H3.out _).mono ?_); rintro e w1 ⟨rfl, k3, rfl⟩)
      | (go_at_call 8; (with_reducible refine (H1.out _).mono ?_); rintro e w1 ⟨rfl, k, rfl⟩)
      | (go_at_call 9; (with_reducible refine (H2.out _).mono ?_); rintro e w1 ⟨rfl, k2, rfl⟩)
      | (go_at_call 10; (with_reducible refine (H4.out _).mono ?_); rintro e w1 ⟨rfl, rfl⟩))
    have HP1 := Lib.hid (fun n => HP.out.below hz (below_drewN (Below.refl w.heap.size w) n))
    go_wp2_with (go_at_call 11; refine (awake_any _ (HP1.out _) hz).mono ?_; rintro e w4 ⟨rfl, hb4⟩)
    go_ret
    exact ⟨rfl, (below_drewN (Below.refl _ w) _).trans hb4⟩
end Go.Proofs.YtchpfghbigaijacDoor
