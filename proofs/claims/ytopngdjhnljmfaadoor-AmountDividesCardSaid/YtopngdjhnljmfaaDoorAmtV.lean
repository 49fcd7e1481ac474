/- Walks: amounts, their sums, and the sums of lists, in the program and in the reference. -/
import Derived.Test.YtopngdjhnljmfaaDoorRows
import Derived.Test.YtopngdjhnljmfaaDoorAmtM
namespace Go.Proofs.YtopngdjhnljmfaaDoor
open Go.RowKit

theorem valid_any (a : Int) (w : World) : Calls Tryd.prog 21 #[.int .i64 a] w fun e w' => e = .returned (.bool (okA a)) ∧ w = w' := by
  by_cases h1 : -1125899906842624 ≤ a
  · have HF : Hid (decide (a ≤ 1125899906842624) = okA a) := Lib.hid (by simp [okA, h1])
    go_enter Tryd.func21, Tryd.ntmps21
    go_wp2
    go_ret
    exact ⟨ret_bool HF.out, rfl⟩
  · have hd : decide (-1125899906842624 ≤ a) = false := by simpa using h1
    have HF : Hid (false = okA a) := Lib.hid (by simp [okA, h1])
    go_enter Tryd.func21, Tryd.ntmps21
    go_wp2
    go_ret
    exact ⟨ret_bool HF.out, rfl⟩
theorem refValid_any (a : Int) (w : World) : Calls Tryd.prog 9 #[.int .i64 a] w fun e w' => e = .returned (.bool (okA a)) ∧ w = w' := by
  by_cases h1 : -1125899906842624 ≤ a
  · have HF : Hid (decide (a ≤ 1125899906842624) = okA a) := Lib.hid (by simp [okA, h1])
    go_enter Tryd.func9, Tryd.ntmps9
    go_wp2
    go_ret
    exact ⟨ret_bool HF.out, rfl⟩
  · have hd : decide (-1125899906842624 ≤ a) = false := by simpa using h1
    have HF : Hid (false = okA a) := Lib.hid (by simp [okA, h1])
    go_enter Tryd.func9, Tryd.ntmps9
    go_wp2
    go_ret
    exact ⟨ret_bool HF.out, rfl⟩
end Go.Proofs.YtopngdjhnljmfaaDoor
