/- Walks: sums of lists, in the program and in the reference. -/
import Derived.Test.YtopngdjhnljmfaaDoorAmtV
namespace Go.Proofs.YtopngdjhnljmfaaDoor
open Go.RowKit

set_option maxHeartbeats 1000000 in
theorem total_any (A : Option Addr) (n c : Nat) (zs : List Int) (w : World) (hA : Ints w A n zs) (hn : n ≤ maxLen) :
    Calls Tryd.prog 27 #[.slice A n c] w fun e w' => e = .returned (.tuple #[.int .i64 (totV zs), .int .i64 (totE zs)]) ∧ w = w' := by
  unfold maxLen at hn
  by_cases hl : 4096 < n
  · have HF := Lib.hid (tot_long (zs := zs) (by rw [hA.1]; exact hl))
    have hl' : (4096 : Int) < (n : Int) := by omega
    go_enter Tryd.func27, Tryd.ntmps27
    go_wp2
    go_ret2
    exact ⟨ret_ints HF.out.1.symm HF.out.2.symm, rfl⟩
  · go_enter Tryd.func27, Tryd.ntmps27
    go_wp2
    go_loop [4, 12] (fun v i => ∃ k : Nat, k ≤ n ∧ i = .int .i64 k ∧ (zs.take k).all okA = true ∧ v = .int .i64 (zs.take k).sum) (fun _ i => n - (intOf i).toNat)
    case atStart => exact ⟨0, by omega, rfl, rfl, rfl⟩
    case round =>
      obtain ⟨k, hk, rfl, hall, rfl⟩ := hrel
      have hsb := sum_bound hall
      have hzl : zs.length = n := hA.1
      have htl : (zs.take k).length = k := by rw [List.length_take]; omega
      rw [htl] at hsb
      have H := Lib.hid hall; clear hall
      by_cases hlt : k < n
      · obtain ⟨b, off, rfl, hbl, hc⟩ := hA.2.2 k hlt
        have hr := hA.range k hlt
        have hts := take_step zs k (by omega)
        have hbad := all_bad (zs := zs) (k := k) (by omega)
        obtain ⟨z, hz⟩ : ∃ z, zs[k]?.getD 0 = z := ⟨_, rfl⟩
        rw [hz] at hc hr hts hbad
        have HT := Lib.hid hts
        have HZ := Lib.hid hzl
        clear hA hz hts hzl htl
        cases hok : okA z with
        | false =>
          have HF := Lib.hid (tot_bad (zs := zs) (by rw [HZ.out]; omega) (hbad hok))
          clear hbad
          go_wp2_with (go_at_call 21; refine (valid_any _ _).mono ?_; rintro e w1 ⟨rfl, rfl⟩)
          go_ret2
          exact ⟨ret_ints HF.out.1.symm HF.out.2.symm, rfl⟩
        | true =>
          clear hbad
          have hzb := okA_iff.1 hok
          obtain ⟨t, ht⟩ : ∃ t, (zs.take k).sum = t := ⟨_, rfl⟩
          rw [ht] at hsb ⊢
          have HS := Lib.hid ht; clear ht
          have HO := Lib.hid hok
          go_wp2_with (go_at_call 21; refine (valid_any _ _).mono ?_; rintro e w1 ⟨rfl, rfl⟩)
          go_round
          case rel => exact ⟨k + 1, by omega, by go_num, by rw [HT.out, List.all_append, H.out]; simp [HO.out], by rw [HT.out, List.sum_append, HS.out]; simp⟩
          case measure => simp [intOf]; omega
      · obtain rfl : k = n := by omega
        have htk : zs.take k = zs := List.take_of_length_le (by omega)
        have HF := Lib.hid (tot_good (zs := zs) (by omega) (by rw [← htk]; exact H.out))
        have HK := Lib.hid htk
        clear hA hzl htl htk
        go_wp2
        go_ret2
        exact ⟨ret_ints (by rw [HF.out.1, HK.out]) HF.out.2.symm, rfl⟩


end Go.Proofs.YtopngdjhnljmfaaDoor
