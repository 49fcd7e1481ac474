/- Walk: the law on validity, prefixes and order. -/
import Derived.Test.YtieehofijndelaaDigAwake
import Derived.Test.YtieehofijndelaaDigCmp2
import Derived.Test.YtieehofijndelaaLawKit
namespace Go.Proofs.Ytieehofijndelaa
open Go.RowKit

set_option maxHeartbeats 4000000 in
theorem walkDigitsTells (a b : ByteArray) (w : World) (ha : a.size ≤ maxLen) (hb : b.size ≤ maxLen) :
    Calls Try.prog 3 #[.string a, .string b] w fun e w' => e = .returned (.bool true) ∧ Below w.heap.size w w' := by
  have ha0 := ha
  have hb0 := hb
  unfold maxLen at ha hb
  by_cases hl : 200 < (a.size : Int)
  · go_enter Try.func3, Try.ntmps3
    go_wp2_with (go_at_call 6; refine (awake_any _).mono ?_; rintro e w1 ⟨rfl, hb1⟩)
    go_ret
    exact ⟨rfl, hb1⟩
  · by_cases hl2 : 200 < (b.size : Int)
    · go_enter Try.func3, Try.ntmps3
      go_wp2_with (go_at_call 6; refine (awake_any _).mono ?_; rintro e w1 ⟨rfl, hb1⟩)
      go_ret
      exact ⟨rfl, hb1⟩
    · go_enter Try.func3, Try.ntmps3
      go_wp2_with (first
        | (go_at_call 6; refine (awake_any _).mono ?_; rintro e w1 ⟨rfl, hb1⟩)
        | (go_at_call 7; refine (valid_any _ _ ha0).mono ?_; rintro e w1 ⟨rfl, rfl⟩)
        | (go_at_call 8; refine (refValid_any _ _ ha0).mono ?_; rintro e w1 ⟨rfl, rfl⟩)
        | (go_at_call 9; refine (hasPrefix_any _ _ _).mono ?_; rintro e w1 ⟨rfl, rfl⟩)
        | (go_at_call 10; refine (refHasPrefix_any _ _ _ ha0 hb0).mono ?_; rintro e w1 ⟨rfl, rfl⟩)
        | (go_at_call 11; refine (compare_any _ _ _ ha0 hb0).mono ?_; rintro e w2 ⟨rfl, hb2⟩)
        | (go_at_call 12; refine (refCompare_any _ _ _ ha0 hb0).mono ?_; rintro e w3 ⟨rfl, rfl⟩))
      go_ret
      exact ⟨rfl, hb2.trans (hb1.mono hb2.size)⟩
end Go.Proofs.Ytieehofijndelaa
