/- Walk: the reference's product of what are no arguments. -/
import Derived.Test.YtchpfghbigaijacDoorRefScale2
namespace Go.Proofs.YtchpfghbigaijacDoor
open Go.RowKit

theorem bad_or {p q r s t : Bool} (h : (p && q && r && s && t) = false) : p = false ∨ (p = true ∧ q = false) ∨ (p = true ∧ q = true ∧ r = false) ∨ (p = true ∧ q = true ∧ r = true ∧ s = false) ∨ (p = true ∧ q = true ∧ r = true ∧ s = true ∧ t = false) := by
  revert h; cases p <;> cases q <;> cases r <;> cases s <;> cases t <;> decide

set_option maxHeartbeats 400000 in
theorem refScale_bad (a n d : Int) (h : (okA a && okU n && okU d && !(d == 0)) = false) (w : World) :
    Calls Tryd.prog 21 #[.int .i64 a, .int .i64 n, .int .i64 d] w fun e w' => e = .returned (.tuple #[.int .i64 0, .int .i64 6]) ∧ w = w' := by
  have h2 : (okA a && decide (0 ≤ n) && decide (n ≤ 1099511627776) && decide (1 ≤ d) && decide (d ≤ 1099511627776)) = false := by
    revert h
    simp only [okU, Bool.and_eq_false_iff, Bool.not_eq_false', decide_eq_false_iff_not, beq_iff_eq]
    rintro (((h | h | h) | h | h) | h)
    all_goals simp [h]
    all_goals omega
  clear h
  rcases bad_or h2 with hA | ⟨hA, h⟩ | ⟨hA, h, h1⟩ | ⟨hA, h, h1, h3⟩ | ⟨hA, h, h1, h3, h4⟩
  · clear h2
    go_enter Tryd.func21, Tryd.ntmps21
    go_wp2_with (go_at_call 10; refine (refValid_any _ _).mono ?_; rintro e w1 ⟨rfl, rfl⟩)
    go_ret2
    exact ⟨rfl, rfl⟩
  · have hB1 : decide (n < 0) = true := by simp at h ⊢; omega
    clear h2 h
    go_enter Tryd.func21, Tryd.ntmps21
    go_wp2_with (go_at_call 10; refine (refValid_any _ _).mono ?_; rintro e w1 ⟨rfl, rfl⟩)
    go_ret2
    exact ⟨rfl, rfl⟩
  · have hB1 : decide (n < 0) = false := by simp at h ⊢; omega
    have hB2 : decide ((1099511627776 : Int) < n) = true := by simp at h1 ⊢; omega
    clear h2 h h1
    go_enter Tryd.func21, Tryd.ntmps21
    go_wp2_with (go_at_call 10; refine (refValid_any _ _).mono ?_; rintro e w1 ⟨rfl, rfl⟩)
    go_ret2
    exact ⟨rfl, rfl⟩
  · have hB1 : decide (n < 0) = false := by simp at h ⊢; omega
    have hB2 : decide ((1099511627776 : Int) < n) = false := by simp at h1 ⊢; omega
    have hB3 : decide (d < 1) = true := by simp at h3 ⊢; omega
    clear h2 h h1 h3
    go_enter Tryd.func21, Tryd.ntmps21
    go_wp2_with (go_at_call 10; refine (refValid_any _ _).mono ?_; rintro e w1 ⟨rfl, rfl⟩)
    go_ret2
    exact ⟨rfl, rfl⟩
  · have hB1 : decide (n < 0) = false := by simp at h ⊢; omega
    have hB2 : decide ((1099511627776 : Int) < n) = false := by simp at h1 ⊢; omega
    have hB3 : decide (d < 1) = false := by simp at h3 ⊢; omega
    have hB4 : decide ((1099511627776 : Int) < d) = true := by simp at h4 ⊢; omega
    clear h2 h h1 h3 h4
    go_enter Tryd.func21, Tryd.ntmps21
    go_wp2_with (go_at_call 10; refine (refValid_any _ _).mono ?_; rintro e w1 ⟨rfl, rfl⟩)
    go_ret2
    exact ⟨rfl, rfl⟩
end Go.Proofs.YtchpfghbigaijacDoor
