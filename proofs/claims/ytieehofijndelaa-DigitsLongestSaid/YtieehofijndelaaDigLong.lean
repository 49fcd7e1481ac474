/- Walk: the longest prefix in the program. -/
import Derived.Test.YtieehofijndelaaDigNorm
import Derived.Test.YtieehofijndelaaDigLongM
namespace Go.Proofs.Ytieehofijndelaa
open Go.RowKit

set_option maxHeartbeats 1000000 in
theorem longest_any (s : ByteArray) (A : Option Addr) (n c : Nat) (ps : List ByteArray) (w : World) (hA : Strs w A n ps) (hn : n ≤ 65536) (hps : ∀ p ∈ ps, p.size ≤ 65536) :
    Calls Try.prog 13 #[.string s, .slice A n c] w fun e w' => e = .returned (.int .i64 (longTo s ps n).1) ∧ w = w' := by
  go_enter Try.func13, Try.ntmps13
  go_wp2
  go_loop [5, 6, 11] (fun p l i => ∃ k : Nat, k ≤ n ∧ i = .int .i64 k ∧ p = .int .i64 (longTo s ps k).1 ∧ l = .int .i64 (longTo s ps k).2) (fun _ _ i => n - (intOf i).toNat)
  case atStart => exact ⟨0, by omega, rfl, rfl, rfl⟩
  case round =>
    obtain ⟨k, hk, rfl, rfl, rfl⟩ := hrel
    by_cases hlt : k < n
    · obtain ⟨b, off, rfl, hbl, hc⟩ := hA.2 k hlt
      have hqs : (ps[k]?.getD ByteArray.empty).size ≤ 65536 := by
        have hl : k < ps.length := by rw [hA.1]; exact hlt
        rw [List.getElem?_eq_getElem hl]
        exact hps _ (List.getElem_mem hl)
      have hstep : longTo s ps (k + 1) = longStep s (ps[k]?.getD ByteArray.empty) k (longTo s ps k) := rfl
      have hbd := longTo_bounds s ps k
      obtain ⟨q, hq⟩ : ∃ q, ps[k]?.getD ByteArray.empty = q := ⟨_, rfl⟩
      obtain ⟨r, hr⟩ : ∃ r, longTo s ps k = r := ⟨_, rfl⟩
      rw [hq] at hc hqs hstep
      rw [hr] at hstep hbd ⊢
      clear hA hps hq hr
      by_cases h1 : r.2 < (q.size : Int)
      · cases h2 : Lib.hasPrefix s.data.toList q.data.toList with
        | true =>
          rw [longStep_hit h1 h2] at hstep
          have HS := Lib.hid hstep; clear hstep
          go_wp2_with (go_at_call 9; refine (hasPrefix_any _ _ _).mono ?_; rintro e w1 ⟨rfl, rfl⟩)
          go_round
          case rel => exact ⟨k + 1, by omega, by go_num, by rw [HS.out], by rw [HS.out]⟩
          case measure => simp [intOf]; omega
        | false =>
          rw [longStep_miss h2] at hstep
          have HS := Lib.hid hstep; clear hstep
          go_wp2_with (go_at_call 9; refine (hasPrefix_any _ _ _).mono ?_; rintro e w1 ⟨rfl, rfl⟩)
          go_round
          case rel => exact ⟨k + 1, by omega, by go_num, by rw [HS.out], by rw [HS.out]⟩
          case measure => simp [intOf]; omega
      · rw [longStep_short h1] at hstep
        have HS := Lib.hid hstep; clear hstep
        go_wp2
        go_round
        case rel => exact ⟨k + 1, by omega, by go_num, by rw [HS.out], by rw [HS.out]⟩
        case measure => simp [intOf]; omega
    · obtain rfl : k = n := by omega
      go_wp2
      go_ret
      exact ⟨rfl, rfl⟩
end Go.Proofs.Ytieehofijndelaa
