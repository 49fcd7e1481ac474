/- Walks: Within, Operands, Sort, and the reference's Arity, Has, attribute. -/
import Derived.Test.YtpkmnefbofhjbaaGreatCkM
import Derived.Test.YtpkmnefbofhjbaaGreatZnC
import Derived.Test.YtpkmnefbofhjbaaGreatIvV
namespace Go.Proofs.YtpkmnefbofhjbaaGreat.Ck
open Go Go.Lib Go.RowKit Go.Proofs.YtpkmnefbofhjbaaGreat

theorem within_any (n a b : Int) (w : World) : Calls Tryz.prog 31 #[.int .i64 n, .int .i64 a, .int .i64 b] w fun e w' => e = .returned (.bool (inB n a b)) ∧ w = w' := by
  unfold inB
  cases h1 : decide (a ≤ n) <;> cases h2 : decide (n ≤ b)
  all_goals
    go_enter Tryz.func31, Tryz.ntmps31
    go_wp2
    go_ret
    exact ⟨rfl, rfl⟩
theorem within_is {n a b : Int} {v : Bool} (h : inB n a b = v) (w : World) : Calls Tryz.prog 31 #[.int .i64 n, .int .i64 a, .int .i64 b] w fun e w' => e = .returned (.bool v) ∧ w = w' := by
  subst h; exact within_any n a b w
theorem inB_iff {n a b : Int} {v : Bool} (h : inB n a b = v) : (v = true → a ≤ n ∧ n ≤ b) ∧ (v = false → n < a ∨ b < n) := by
  subst h
  unfold inB
  constructor
  · intro h; simpa using h
  · intro h
    by_cases h1 : a ≤ n
    · right
      rw [decide_eq_true h1, Bool.true_and] at h
      have := of_decide_eq_false h
      omega
    · left; omega
theorem operands_any (op : Int) (w : World) : Calls Tryz.prog 119 #[.int .i64 op] w fun e w' => e = .returned (.int .i64 (arity op)) ∧ w = w' := by
  cases hv : inB op 1 15
  · have h0 := (inB_iff hv).2 rfl
    have HA : Hid (arity op = -1) := Lib.hid (by unfold arity; rw [if_neg (by omega), if_neg (by omega), if_neg (by omega)])
    have HW := Lib.hid (within_is hv)
    clear hv h0
    go_enter Tryz.func119, Tryz.ntmps119
    go_wp2_with (go_at_call 31; (with_reducible refine (HW.out _).mono ?_); rintro e w1 ⟨rfl, rfl⟩)
    go_ret
    exact ⟨by rw [HA.out] <;> rfl, rfl⟩
  · have h0 := (inB_iff hv).1 rfl
    have HW := Lib.hid (within_is hv)
    by_cases h3 : op ≤ 3
    · have d3 : decide (op ≤ 3) = true := decide_eq_true h3
      have HA : Hid (arity op = 0) := Lib.hid (by unfold arity; rw [if_pos (by omega)])
      clear hv h0 h3
      go_enter Tryz.func119, Tryz.ntmps119
      go_wp2_with (go_at_call 31; (with_reducible refine (HW.out _).mono ?_); rintro e w1 ⟨rfl, rfl⟩)
      go_ret
      exact ⟨by rw [HA.out] <;> rfl, rfl⟩
    · have d3 : decide (op ≤ 3) = false := decide_eq_false h3
      by_cases h4 : op = 4
      · subst h4
        have HA : Hid (arity 4 = 1) := Lib.hid (by rfl)
        clear hv h0 h3
        go_enter Tryz.func119, Tryz.ntmps119
        go_wp2_with (go_at_call 31; (with_reducible refine (HW.out _).mono ?_); rintro e w1 ⟨rfl, rfl⟩)
        go_ret
        exact ⟨by rw [HA.out] <;> rfl, rfl⟩
      · have d4 : (op == 4) = false := by rw [beq_eq_false_iff_ne]; exact h4
        have HA : Hid (arity op = 2) := Lib.hid (by unfold arity; rw [if_neg (by omega), if_neg (by omega), if_pos (by omega)])
        clear hv h0 h3 h4
        go_enter Tryz.func119, Tryz.ntmps119
        go_wp2_with (go_at_call 31; (with_reducible refine (HW.out _).mono ?_); rintro e w1 ⟨rfl, rfl⟩)
        go_ret
        exact ⟨by rw [HA.out] <;> rfl, rfl⟩
theorem arity_any (op : Int) (w : World) : Calls Tryz.prog 122 #[.int .i64 op] w fun e w' => e = .returned (.int .i64 (arity op)) ∧ w = w' := by
  by_cases h1 : 1 ≤ op
  · have d1 : decide (1 ≤ op) = true := decide_eq_true h1
    by_cases h3 : op ≤ 3
    · have d3 : decide (op ≤ 3) = true := decide_eq_true h3
      have HA : Hid (arity op = 0) := Lib.hid (by unfold arity; rw [if_pos (by omega)])
      clear h1 h3
      go_enter Tryz.func122, Tryz.ntmps122
      go_wp2
      go_ret
      exact ⟨by rw [HA.out] <;> rfl, rfl⟩
    · have d3 : decide (op ≤ 3) = false := decide_eq_false h3
      by_cases h4 : op = 4
      · subst h4
        have HA : Hid (arity 4 = 1) := Lib.hid (by rfl)
        clear h1 h3
        go_enter Tryz.func122, Tryz.ntmps122
        go_wp2
        go_ret
        exact ⟨by rw [HA.out] <;> rfl, rfl⟩
      · have d4 : (op == 4) = false := by rw [beq_eq_false_iff_ne]; exact h4
        have d5 : decide (4 < op) = true := decide_eq_true (by omega)
        by_cases h6 : op < 16
        · have d6 : decide (op < 16) = true := decide_eq_true h6
          have HA : Hid (arity op = 2) := Lib.hid (by unfold arity; rw [if_neg (by omega), if_neg (by omega), if_pos (by omega)])
          clear h1 h3 h4 h6
          go_enter Tryz.func122, Tryz.ntmps122
          go_wp2
          go_ret
          exact ⟨by rw [HA.out] <;> rfl, rfl⟩
        · have d6 : decide (op < 16) = false := decide_eq_false h6
          have HA : Hid (arity op = -1) := Lib.hid (by unfold arity; rw [if_neg (by omega), if_neg (by omega), if_neg (by omega)])
          clear h1 h3 h4 h6
          go_enter Tryz.func122, Tryz.ntmps122
          go_wp2
          go_ret
          exact ⟨by rw [HA.out] <;> rfl, rfl⟩
  · have d1 : decide (1 ≤ op) = false := decide_eq_false h1
    have d4 : (op == 4) = false := by rw [beq_eq_false_iff_ne]; omega
    have d5 : decide (4 < op) = false := decide_eq_false (by omega)
    have HA : Hid (arity op = -1) := Lib.hid (by unfold arity; rw [if_neg (by omega), if_neg (by omega), if_neg (by omega)])
    clear h1
    go_enter Tryz.func122, Tryz.ntmps122
    go_wp2
    go_ret
    exact ⟨by rw [HA.out] <;> rfl, rfl⟩
end Go.Proofs.YtpkmnefbofhjbaaGreat.Ck
