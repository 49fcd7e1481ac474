/- Walks: the absolute value, and the range of a number of units. -/
import Derived.Test.YtcjceecdcjjnfaaAmtV
namespace Go.Proofs.Ytcjceecdcjjnfaa
open Go.RowKit

/-- The absolute value. -/
def mag (a : Int) : Int := if a < 0 then -a else a
theorem mag_neg {a : Int} (h : a < 0) : mag a = -a := by simp [mag, h]
theorem mag_pos {a : Int} (h : ¬ a < 0) : mag a = a := by simp [mag, h]
theorem wrap_neg {a : Int} (h : a < 0) (h2 : -9223372036854775808 ≤ a) : IntKind.u64.wrap (-(IntKind.u64.wrap a)) = -a := by
  simp [IntKind.wrap, IntKind.min, IntKind.max, IntKind.signed, IntKind.bits]
  omega
theorem wrap_pos {a : Int} (h : ¬ a < 0) (h2 : a ≤ 9223372036854775807) : IntKind.u64.wrap a = a := by
  simp [IntKind.wrap, IntKind.min, IntKind.max, IntKind.signed, IntKind.bits]
  omega
set_option maxHeartbeats 400000 in
theorem magnitude_any (a : Int) (w : World) (h1 : -9223372036854775808 ≤ a) (h2 : a ≤ 9223372036854775807) :
    Calls Try.prog 34 #[.int .i64 a] w fun e w' => e = .returned (.int .u64 (mag a)) ∧ w = w' := by
  by_cases h : a < 0
  · have HF := Lib.hid (mag_neg h)
    have HW := Lib.hid (wrap_neg h h1)
    go_enter Try.func34, Try.ntmps34
    go_wp2
    go_ret
    exact ⟨ret_int (HW.out.trans HF.out.symm), rfl⟩
  · have HF := Lib.hid (mag_pos h)
    have HW := Lib.hid (wrap_pos h h2)
    go_enter Try.func34, Try.ntmps34
    go_wp2
    go_ret
    exact ⟨ret_int HF.out.symm, rfl⟩
/-- A number of units. -/
def okU (n : Int) : Bool := decide (0 ≤ n) && decide (n ≤ 1099511627776)
theorem okU_iff {a : Int} : okU a = true ↔ 0 ≤ a ∧ a ≤ 1099511627776 := by simp [okU]
theorem validUnits_any (a : Int) (w : World) : Calls Try.prog 32 #[.int .i64 a] w fun e w' => e = .returned (.bool (okU a)) ∧ w = w' := by
  by_cases h1 : 0 ≤ a
  · have HF : Hid (decide (a ≤ 1099511627776) = okU a) := Lib.hid (by simp [okU, h1])
    go_enter Try.func32, Try.ntmps32
    go_wp2
    go_ret
    exact ⟨ret_bool HF.out, rfl⟩
  · have hd : decide (0 ≤ a) = false := by simpa using h1
    have HF : Hid (false = okU a) := Lib.hid (by simp [okU, h1])
    go_enter Try.func32, Try.ntmps32
    go_wp2
    go_ret
    exact ⟨ret_bool HF.out, rfl⟩
end Go.Proofs.Ytcjceecdcjjnfaa
