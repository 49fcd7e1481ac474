/- Walks: masking, in the program and in the reference. -/
import Derived.Test.YtieehofijndelabRows
import Derived.Test.YtieehofijndelabDigM
import Derived.Test.YtieehofijndelabDigMaskM
import Derived.Test.YtieehofijndelabShelf
import Derived.Deep.QuietTactic
import Derived.Deep.RegionWith
import Derived.BigQuiet
import Derived.Below
namespace Go.Proofs.Ytieehofijndelab
open Go.RowKit

set_option maxHeartbeats 1000000 in
theorem refMask_any (s : ByteArray) (n : Int) (w : World) (hs : s.size ≤ maxLen) :
    Calls Try.prog 16 #[.string s, .int .i64 n] w fun e w' => e = .returned (.string (S (maskL s.data.toList n.toNat))) ∧ w = w' := by
  unfold maxLen at hs
  go_enter Try.func16, Try.ntmps16
  go_wp2
  go_loop [5, 6] (fun o i => ∃ k : Nat, k ≤ s.size ∧ i = .int .i64 k ∧ o = .string (S (maskTo s.data.toList n.toNat k))) (fun _ i => s.size - (intOf i).toNat)
  case atStart => exact ⟨0, Nat.zero_le _, rfl, by rw [maskTo_zero]; rfl⟩
  case round =>
    obtain ⟨k, hk, rfl, rfl⟩ := hrel
    have hl := maskTo_length s.data.toList n.toNat k (by rw [len_data]; exact hk)
    by_cases hlt : k < s.size
    · by_cases hn : (k : Int) < n
      · have hadd : (Op.stringOp .add (S (maskTo s.data.toList n.toNat k)) (s.extract k (k + 1))).run Try.prog w = .ok (.string (S (maskTo s.data.toList n.toNat (k + 1)))) w := by
          rw [S_extract, run_string_add_sum w _ _ (by rw [S_size, S_size]; simp; omega), S_append, Nat.add_sub_cancel_left, maskTo_low _ _ _ (by rw [len_data]; exact hlt) (by omega)]
        have hsl := slice_one (P := Try.prog) w _ s k Try.underlying9 hlt
        go_wp2
        go_round
        case rel => exact ⟨k + 1, by omega, by go_num, rfl⟩
        case measure => simp [intOf]; omega
      · have hadd : (Op.stringOp .add (S (maskTo s.data.toList n.toNat k)) ⟨#[120]⟩).run Try.prog w = .ok (.string (S (maskTo s.data.toList n.toNat (k + 1)))) w := by
          rw [run_string_add_sum w _ _ (by rw [S_size]; show _ + 1 ≤ _; omega), show (⟨#[120]⟩ : ByteArray) = S [120] from rfl, S_append, maskTo_high _ _ _ (by rw [len_data]; exact hlt) (by omega)]
        go_wp2
        go_round
        case rel => exact ⟨k + 1, by omega, by go_num, rfl⟩
        case measure => simp [intOf]; omega
    · obtain rfl : k = s.size := by omega
      go_wp2
      go_ret
      exact ⟨ret_str (by rw [← len_data, maskTo_all]), rfl⟩
end Go.Proofs.Ytieehofijndelab
