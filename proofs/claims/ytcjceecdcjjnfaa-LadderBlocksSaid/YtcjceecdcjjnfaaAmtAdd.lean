/- Walks: sums of two amounts, in the program and in the reference. -/
import Derived.Test.YtcjceecdcjjnfaaAmtV
namespace Go.Proofs.Ytcjceecdcjjnfaa
open Go.RowKit

set_option maxHeartbeats 1000000 in
theorem add_any (a b : Int) (w : World) (ha : -9223372036854775808 ≤ a ∧ a ≤ 9223372036854775807) (hb : -9223372036854775808 ≤ b ∧ b ≤ 9223372036854775807) :
    Calls Try.prog 30 #[.int .i64 a, .int .i64 b] w fun e w' => e = .returned (.tuple #[.int .i64 (addV a b), .int .i64 (addE a b)]) ∧ w = w' := by
  cases h1 : okA a with
  | false =>
    have HF := Lib.hid (add_no1 (b := b) h1)
    go_enter Try.func30, Try.ntmps30
    go_wp2_with (go_at_call 31; refine (valid_any _ _).mono ?_; rintro e w1 ⟨rfl, rfl⟩)
    go_ret2
    exact ⟨ret_ints HF.out.1.symm HF.out.2.symm, rfl⟩
  | true =>
    cases h2 : okA b with
    | false =>
      have HF := Lib.hid (add_no2 (a := a) h2)
      go_enter Try.func30, Try.ntmps30
      go_wp2_with (go_at_call 31; refine (valid_any _ _).mono ?_; rintro e w1 ⟨rfl, rfl⟩)
      go_ret2
      exact ⟨ret_ints HF.out.1.symm HF.out.2.symm, rfl⟩
    | true =>
      have g1 := okA_iff.1 h1
      have g2 := okA_iff.1 h2
      cases h3 : okA (a + b) with
      | false =>
        have HF := Lib.hid (add_no3 (a := a) (b := b) h3)
        go_enter Try.func30, Try.ntmps30
        go_wp2_with (go_at_call 31; refine (valid_any _ _).mono ?_; rintro e w1 ⟨rfl, rfl⟩)
        go_ret2
        exact ⟨ret_ints HF.out.1.symm HF.out.2.symm, rfl⟩
      | true =>
        have HF := Lib.hid (add_yes h1 h2 h3)
        go_enter Try.func30, Try.ntmps30
        go_wp2_with (go_at_call 31; refine (valid_any _ _).mono ?_; rintro e w1 ⟨rfl, rfl⟩)
        go_ret2
        exact ⟨ret_ints HF.out.1.symm HF.out.2.symm, rfl⟩

end Go.Proofs.Ytcjceecdcjjnfaa
