/- Walks: Within, Operands, Sort, and the reference's Arity, Has, attribute. -/
import Derived.Test.YtbfficialcnedaaCkM
import Derived.Test.YtbfficialcnedaaZnC
import Derived.Test.YtbfficialcnedaaIvV
namespace Go.Proofs.Ytbfficialcnedaa.Ck
open Go Go.Lib Go.RowKit Go.Proofs.Ytbfficialcnedaa

theorem within_any (n a b : Int) (w : World) : Calls Try.prog 51 #[.int .i64 n, .int .i64 a, .int .i64 b] w fun e w' => e = .returned (.bool (inB n a b)) ∧ w = w' := by
  unfold inB
  cases h1 : decide (a ≤ n) <;> cases h2 : decide (n ≤ b)
  all_goals
    go_enter Try.func51, Try.ntmps51
    go_wp2
    go_ret
    exact ⟨rfl, rfl⟩
theorem within_is {n a b : Int} {v : Bool} (h : inB n a b = v) (w : World) : Calls Try.prog 51 #[.int .i64 n, .int .i64 a, .int .i64 b] w fun e w' => e = .returned (.bool v) ∧ w = w' := by
  subst h; exact within_any n a b w
theorem inB_iff {n a b : Int} {v : Bool} (h : inB n a b = v) : (v = true → a ≤ n ∧ n ≤ b) ∧ (v = false → n < a ∨ b < n) := by
  subst h
  unfold inB
  constructor
  · intro h; simpa using h
  · intro h
    by_cases h1 : a ≤ n
    · right
      rw [decide_eq_true h1, Bool.true_and] at h
      have := of_decide_eq_false h
      omega
    · left; omega
theorem operands_any (op : Int) (w : World) : Calls Try.prog 100 #[.int .i64 op] w fun e w' => e = .returned (.int .i64 (arity op)) ∧ w = w' := by
  cases hv : inB op 1 15
  · have h0 := (inB_iff hv).2 rfl
    have HA : Hid (arity op = -1) := Lib.hid (by unfold arity; rw [if_neg (by omega), if_neg (by omega), if_neg (by omega)])
    have HW := Lib.hid (within_is hv)
    clear hv h0
    go_enter Try.func100, Try.ntmps100
    go_wp2_with (go_at_call 51; (with_reducible refine (HW.out _).mono ?_); rintro e w1 ⟨rfl, rfl⟩)
    go_ret
    exact ⟨by rw [HA.out] <;> rfl, rfl⟩
  · have h0 := (inB_iff hv).1 rfl
    have HW := Lib.hid (within_is hv)
    by_cases h3 : op ≤ 3
    · have d3 : decide (op ≤ 3) = true := decide_eq_true h3
      have HA : Hid (arity op = 0) := Lib.hid (by unfold arity; rw [if_pos (by omega)])
      clear hv h0 h3
      go_enter Try.func100, Try.ntmps100
      go_wp2_with (go_at_call 51; (with_reducible refine (HW.out _).mono ?_); rintro e w1 ⟨rfl, rfl⟩)
      go_ret
      exact ⟨by rw [HA.out] <;> rfl, rfl⟩
    · have d3 : decide (op ≤ 3) = false := decide_eq_false h3
      by_cases h4 : op = 4
      · subst h4
        have HA : Hid (arity 4 = 1) := Lib.hid (by rfl)
        clear hv h0 h3
        go_enter Try.func100, Try.ntmps100
        go_wp2_with (go_at_call 51; (with_reducible refine (HW.out _).mono ?_); rintro e w1 ⟨rfl, rfl⟩)
        go_ret
        exact ⟨by rw [HA.out] <;> rfl, rfl⟩
      · have d4 : (op == 4) = false := by rw [beq_eq_false_iff_ne]; exact h4
        have HA : Hid (arity op = 2) := Lib.hid (by unfold arity; rw [if_neg (by omega), if_neg (by omega), if_pos (by omega)])
        clear hv h0 h3 h4
        go_enter Try.func100, Try.ntmps100
        go_wp2_with (go_at_call 51; (with_reducible refine (HW.out _).mono ?_); rintro e w1 ⟨rfl, rfl⟩)
        go_ret
        exact ⟨by rw [HA.out] <;> rfl, rfl⟩
end Go.Proofs.Ytbfficialcnedaa.Ck
