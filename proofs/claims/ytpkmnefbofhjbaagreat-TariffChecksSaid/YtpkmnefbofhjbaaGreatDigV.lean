/- Walks: whether a string is a number, in the program and in the reference. -/
import Derived.Test.YtpkmnefbofhjbaaGreatRows
import Derived.Test.YtpkmnefbofhjbaaGreatDigM
import Derived.Deep.QuietTactic
import Derived.BigQuiet
namespace Go.Proofs.YtpkmnefbofhjbaaGreat
open Go.RowKit

set_option maxHeartbeats 1000000 in
theorem refValid_any (s : ByteArray) (w : World) (hs : s.size ≤ maxLen) :
    Calls Tryz.prog 108 #[.string s] w fun e w' => e = .returned (.bool (numB s.data.toList)) ∧ w = w' := by
  unfold maxLen at hs
  go_enter Tryz.func108, Tryz.ntmps108
  go_wp2
  go_loop [3] (fun i => ∃ k : Nat, k ≤ s.size ∧ i = .int .i64 k ∧ (s.data.toList.take k).all dgt = true) (fun i => s.size - (intOf i).toNat)
  case atStart => exact ⟨0, Nat.zero_le _, rfl, rfl⟩
  case round =>
    obtain ⟨k, hk, rfl, hall⟩ := hrel
    have H := Lib.hid hall; clear hall
    by_cases hlt : k < s.size
    · by_cases h1 : (s[k].toNat : Int) < 48
      · go_wp2
        go_ret
        exact ⟨ret_bool (by simp [numB, all_not hlt (dgt_lo h1)]), rfl⟩
      · by_cases h2 : (57 : Int) < (s[k].toNat : Int)
        · go_wp2
          go_ret
          exact ⟨ret_bool (by simp [numB, all_not hlt (dgt_hi h2)]), rfl⟩
        · go_wp2
          go_round
          case rel => exact ⟨k + 1, by omega, by go_num, by rw [take_snoc s k hlt, all_snoc, H.out, dgt_mk (by omega) (by omega)]; rfl⟩
          case measure => simp [intOf]; omega
    · obtain rfl : k = s.size := by omega
      have hf : s.data.toList.all dgt = true := by have := H.out; rwa [take_all] at this
      have HF := Lib.hid hf; clear hf H
      go_wp2
      all_goals
        go_ret
        exact ⟨ret_bool (by first | exact num_hi HF.out (by omega) | exact (num_empty (by omega)).symm), rfl⟩

set_option maxHeartbeats 1000000 in
theorem valid_any (s : ByteArray) (w : World) (hs : s.size ≤ maxLen) :
    Calls Tryz.prog 112 #[.string s] w fun e w' => e = .returned (.bool (numB s.data.toList)) ∧ w = w' := by
  unfold maxLen at hs
  by_cases g1 : (s.size : Int) < 1
  · have HF := Lib.hid (num_empty g1)
    go_enter Tryz.func112, Tryz.ntmps112
    go_wp2
    go_ret
    exact ⟨ret_bool HF.out.symm, rfl⟩
  · by_cases g2 : 15 < (s.size : Int)
    · have HF := Lib.hid (num_long g2)
      go_enter Tryz.func112, Tryz.ntmps112
      go_wp2
      go_ret
      exact ⟨ret_bool HF.out.symm, rfl⟩
    · go_enter Tryz.func112, Tryz.ntmps112
      go_wp2
      go_loop [14] (fun i => ∃ k : Nat, k ≤ s.size ∧ i = .int .i64 k ∧ (s.data.toList.take k).all dgt = true) (fun i => s.size - (intOf i).toNat)
      case atStart => exact ⟨0, Nat.zero_le _, rfl, rfl⟩
      case round =>
        obtain ⟨k, hk, rfl, hall⟩ := hrel
        have H := Lib.hid hall; clear hall
        by_cases hlt : k < s.size
        · by_cases h1 : (s[k].toNat : Int) < 48
          · go_wp2
            go_ret
            exact ⟨ret_bool (by simp [numB, all_not hlt (dgt_lo h1)]), rfl⟩
          · by_cases h2 : (57 : Int) < (s[k].toNat : Int)
            · go_wp2
              go_ret
              exact ⟨ret_bool (by simp [numB, all_not hlt (dgt_hi h2)]), rfl⟩
            · go_wp2
              go_round
              case rel => exact ⟨k + 1, by omega, by go_num, by rw [take_snoc s k hlt, all_snoc, H.out, dgt_mk (by omega) (by omega)]; rfl⟩
              case measure => simp [intOf]; omega
        · obtain rfl : k = s.size := by omega
          have hf : s.data.toList.all dgt = true := by have := H.out; rwa [take_all] at this
          have HF := Lib.hid (num_yes hf (by omega) (by omega)); clear hf H
          go_wp2
          go_ret
          exact ⟨ret_bool HF.out.symm, rfl⟩
end Go.Proofs.YtpkmnefbofhjbaaGreat
