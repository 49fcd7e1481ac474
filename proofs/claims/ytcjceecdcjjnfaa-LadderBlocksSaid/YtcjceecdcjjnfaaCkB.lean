/- Walks: Within, Operands, Sort, and the reference's Arity, Has, attribute. -/
import Derived.Test.YtcjceecdcjjnfaaCkM
import Derived.Test.YtcjceecdcjjnfaaZnC
import Derived.Test.YtcjceecdcjjnfaaIvV
namespace Go.Proofs.Ytcjceecdcjjnfaa.Ck
open Go Go.Lib Go.RowKit Go.Proofs.Ytcjceecdcjjnfaa

theorem within_any (n a b : Int) (w : World) : Calls Try.prog 23 #[.int .i64 n, .int .i64 a, .int .i64 b] w fun e w' => e = .returned (.bool (inB n a b)) ∧ w = w' := by
  unfold inB
  cases h1 : decide (a ≤ n) <;> cases h2 : decide (n ≤ b)
  all_goals
    go_enter Try.func23, Try.ntmps23
    go_wp2
    go_ret
    exact ⟨rfl, rfl⟩
theorem within_is {n a b : Int} {v : Bool} (h : inB n a b = v) (w : World) : Calls Try.prog 23 #[.int .i64 n, .int .i64 a, .int .i64 b] w fun e w' => e = .returned (.bool v) ∧ w = w' := by
  subst h; exact within_any n a b w
theorem inB_iff {n a b : Int} {v : Bool} (h : inB n a b = v) : (v = true → a ≤ n ∧ n ≤ b) ∧ (v = false → n < a ∨ b < n) := by
  subst h
  unfold inB
  constructor
  · intro h; simpa using h
  · intro h
    by_cases h1 : a ≤ n
    · right
      rw [decide_eq_true h1, Bool.true_and] at h
      have := of_decide_eq_false h
      omega
    · left; omega
end Go.Proofs.Ytcjceecdcjjnfaa.Ck
