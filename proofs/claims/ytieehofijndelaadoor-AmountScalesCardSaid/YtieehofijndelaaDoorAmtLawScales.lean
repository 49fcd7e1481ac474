/- Walk: the law on products. -/
import Derived.Test.YtieehofijndelaaDoorRefScale3
import Derived.Test.YtieehofijndelaaDoorAmtAwake
import Derived.Test.YtieehofijndelaaDoorLawKit
namespace Go.Proofs.YtieehofijndelaaDoor
open Go.RowKit

/-- The program's product and the reference's are one pair. -/
theorem scale_both (a n d : Int) : ∃ x f : Int, (∀ w, Calls Tryd.prog 19 #[.int .i64 a, .int .i64 n, .int .i64 d] w fun e w' => e = .returned (.tuple #[.int .i64 x, .int .i64 f]) ∧ ∃ k, w' = w.drewN k) ∧
    (∀ w, Calls Tryd.prog 20 #[.int .i64 a, .int .i64 n, .int .i64 d] w fun e w' => e = .returned (.tuple #[.int .i64 x, .int .i64 f]) ∧ ∃ k, w' = w.drewN k) := by
  cases h : (okA a && okU n && okU d && !(d == 0))
  · exact ⟨0, 6, fun w => (scale_bad a n d h w).mono fun e w' ⟨he, hw⟩ => ⟨he, 0, hw.symm⟩, fun w => (refScale_bad a n d h w).mono fun e w' ⟨he, hw⟩ => ⟨he, 0, hw.symm⟩⟩
  · simp only [Bool.and_eq_true, Bool.not_eq_true', okU, decide_eq_true_eq, beq_eq_false_iff_ne] at h
    obtain ⟨⟨⟨hA, hn⟩, hd⟩, h0⟩ := h
    obtain ⟨N, rfl⟩ : ∃ N : Nat, n = (N : Int) := ⟨n.toNat, by omega⟩
    obtain ⟨D, rfl⟩ : ∃ D : Nat, d = (D : Int) := ⟨d.toNat, by omega⟩
    have hm : mag a = ((mag a).toNat : Int) := by unfold mag; split <;> omega
    exact ⟨_, _, fun w => scale_good a _ N D hm hA (by omega) (by omega) (by omega) w, fun w => refScale_good a _ N D hm hA (by omega) (by omega) (by omega) w⟩

set_option maxHeartbeats 1000000 in
theorem walkAmountScales (a n d : Int) (w : World) (wa : (Lit.int .i64 a).wf = true) (wn : (Lit.int .i64 n).wf = true) (wd : (Lit.int .i64 d).wf = true) (hP : Pows w) (hz : 0 < w.heap.size) :
    Calls Tryd.prog 4 #[.int .i64 a, .int .i64 n, .int .i64 d] w fun e w' => e = .returned (.bool true) ∧ Below w.heap.size w w' := by
  obtain ⟨x, f, h1, h2⟩ := scale_both a n d
  have H1 := Lib.hid h1; have H2 := Lib.hid h2; have HP := Lib.hid hP
  clear h1 h2 hP wa wn wd
  go_enter Tryd.func4, Tryd.ntmps4
  go_upto_region 3 with (first
    | (go_at_call 19; refine (H1.out _).mono ?_; rintro e w1 ⟨rfl, k, rfl⟩)
    | (go_at_call 20; refine (H2.out _).mono ?_; rintro e w1 ⟨rfl, k2, rfl⟩))
  have hb := below_drewN (Below.refl w.heap.size w) (k + k2)
  have HP1 := Lib.hid (HP.out.below hz hb)
  have hz1 : 0 < (w.drewN (k + k2)).heap.size := Nat.lt_of_lt_of_le hz hb.size
  go_wp2_with (go_at_call 12; refine (awake_any _ HP1.out hz1).mono ?_; rintro e w4 ⟨rfl, hb4⟩)
  go_ret
  exact ⟨rfl, hb.trans (hb4.mono hb.size)⟩
end Go.Proofs.YtieehofijndelaaDoor
