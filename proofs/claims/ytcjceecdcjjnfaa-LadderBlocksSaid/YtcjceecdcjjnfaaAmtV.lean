/- Walks: amounts, their sums, and the sums of lists, in the program and in the reference. -/
import Derived.Test.YtcjceecdcjjnfaaRows
import Derived.Test.YtcjceecdcjjnfaaAmtM
namespace Go.Proofs.Ytcjceecdcjjnfaa
open Go.RowKit

theorem valid_any (a : Int) (w : World) : Calls Try.prog 31 #[.int .i64 a] w fun e w' => e = .returned (.bool (okA a)) ∧ w = w' := by
  by_cases h1 : -1125899906842624 ≤ a
  · have HF : Hid (decide (a ≤ 1125899906842624) = okA a) := Lib.hid (by simp [okA, h1])
    go_enter Try.func31, Try.ntmps31
    go_wp2
    go_ret
    exact ⟨ret_bool HF.out, rfl⟩
  · have hd : decide (-1125899906842624 ≤ a) = false := by simpa using h1
    have HF : Hid (false = okA a) := Lib.hid (by simp [okA, h1])
    go_enter Try.func31, Try.ntmps31
    go_wp2
    go_ret
    exact ⟨ret_bool HF.out, rfl⟩
end Go.Proofs.Ytcjceecdcjjnfaa
