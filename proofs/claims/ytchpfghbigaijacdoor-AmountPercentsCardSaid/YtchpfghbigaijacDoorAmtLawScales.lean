/- Walk: the law on products. -/
import Derived.Test.YtchpfghbigaijacDoorRefScale3
import Derived.Test.YtchpfghbigaijacDoorAmtAwake
import Derived.Test.YtchpfghbigaijacDoorLawKit
namespace Go.Proofs.YtchpfghbigaijacDoor
open Go.RowKit

/-- The program's product and the reference's are one pair. -/
theorem scale_both (a n d : Int) : ∃ x f : Int, (∀ w, Calls Tryd.prog 20 #[.int .i64 a, .int .i64 n, .int .i64 d] w fun e w' => e = .returned (.tuple #[.int .i64 x, .int .i64 f]) ∧ ∃ k, w' = w.drewN k) ∧
    (∀ w, Calls Tryd.prog 21 #[.int .i64 a, .int .i64 n, .int .i64 d] w fun e w' => e = .returned (.tuple #[.int .i64 x, .int .i64 f]) ∧ ∃ k, w' = w.drewN k) := by
  cases h : (okA a && okU n && okU d && !(d == 0))
  · exact ⟨0, 6, fun w => (scale_bad a n d h w).mono fun e w' ⟨he, hw⟩ => ⟨he, 0, hw.symm⟩, fun w => (refScale_bad a n d h w).mono fun e w' ⟨he, hw⟩ => ⟨he, 0, hw.symm⟩⟩
  · simp only [Bool.and_eq_true, Bool.not_eq_true', okU, decide_eq_true_eq, beq_eq_false_iff_ne] at h
    obtain ⟨⟨⟨hA, hn⟩, hd⟩, h0⟩ := h
    obtain ⟨N, rfl⟩ : ∃ N : Nat, n = (N : Int) := ⟨n.toNat, by omega⟩
    obtain ⟨D, rfl⟩ : ∃ D : Nat, d = (D : Int) := ⟨d.toNat, by omega⟩
    have hm : mag a = ((mag a).toNat : Int) := by unfold mag; split <;> omega
    exact ⟨_, _, fun w => scale_good a _ N D hm hA (by omega) (by omega) (by omega) w, fun w => refScale_good a _ N D hm hA (by omega) (by omega) (by omega) w⟩

end Go.Proofs.YtchpfghbigaijacDoor
