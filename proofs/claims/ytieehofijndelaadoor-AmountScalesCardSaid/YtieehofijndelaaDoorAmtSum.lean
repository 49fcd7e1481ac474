/- Walks: sums of lists, in the program and in the reference. -/
import Derived.Test.YtieehofijndelaaDoorAmtV
namespace Go.Proofs.YtieehofijndelaaDoor
open Go.RowKit

set_option maxHeartbeats 1000000 in
theorem total_any (A : Option Addr) (n c : Nat) (zs : List Int) (w : World) (hA : Ints w A n zs) (hn : n ≤ maxLen) :
    Calls Tryd.prog 35 #[.slice A n c] w fun e w' => e = .returned (.tuple #[.int .i64 (totV zs), .int .i64 (totE zs)]) ∧ w = w' := by
  unfold maxLen at hn
  by_cases hl : 4096 < n
  · have HF := Lib.hid (tot_long (zs := zs) (by rw [hA.1]; exact hl))
    have hl' : (4096 : Int) < (n : Int) := by omega
    go_enter Tryd.func35, Tryd.ntmps35
    go_wp2
    go_ret2
    exact ⟨ret_ints HF.out.1.symm HF.out.2.symm, rfl⟩
  · go_enter Tryd.func35, Tryd.ntmps35
    go_wp2
    go_loop [4, 12] (fun v i => ∃ k : Nat, k ≤ n ∧ i = .int .i64 k ∧ (zs.take k).all okA = true ∧ v = .int .i64 (zs.take k).sum) (fun _ i => n - (intOf i).toNat)
    case atStart => exact ⟨0, by omega, rfl, rfl, rfl⟩
    case round =>
      obtain ⟨k, hk, rfl, hall, rfl⟩ := hrel
      have hsb := sum_bound hall
      have hzl : zs.length = n := hA.1
      have htl : (zs.take k).length = k := by rw [List.length_take]; omega
      rw [htl] at hsb
      have H := Lib.hid hall; clear hall
      by_cases hlt : k < n
      · obtain ⟨b, off, rfl, hbl, hc⟩ := hA.2.2 k hlt
        have hr := hA.range k hlt
        have hts := take_step zs k (by omega)
        have hbad := all_bad (zs := zs) (k := k) (by omega)
        obtain ⟨z, hz⟩ : ∃ z, zs[k]?.getD 0 = z := ⟨_, rfl⟩
        rw [hz] at hc hr hts hbad
        have HT := Lib.hid hts
        have HZ := Lib.hid hzl
        clear hA hz hts hzl htl
        cases hok : okA z with
        | false =>
          have HF := Lib.hid (tot_bad (zs := zs) (by rw [HZ.out]; omega) (hbad hok))
          clear hbad
          go_wp2_with (go_at_call 17; refine (valid_any _ _).mono ?_; rintro e w1 ⟨rfl, rfl⟩)
          go_ret2
          exact ⟨ret_ints HF.out.1.symm HF.out.2.symm, rfl⟩
        | true =>
          clear hbad
          have hzb := okA_iff.1 hok
          obtain ⟨t, ht⟩ : ∃ t, (zs.take k).sum = t := ⟨_, rfl⟩
          rw [ht] at hsb ⊢
          have HS := Lib.hid ht; clear ht
          have HO := Lib.hid hok
          go_wp2_with (go_at_call 17; refine (valid_any _ _).mono ?_; rintro e w1 ⟨rfl, rfl⟩)
          go_round
          case rel => exact ⟨k + 1, by omega, by go_num, by rw [HT.out, List.all_append, H.out]; simp [HO.out], by rw [HT.out, List.sum_append, HS.out]; simp⟩
          case measure => simp [intOf]; omega
      · obtain rfl : k = n := by omega
        have htk : zs.take k = zs := List.take_of_length_le (by omega)
        have HF := Lib.hid (tot_good (zs := zs) (by omega) (by rw [← htk]; exact H.out))
        have HK := Lib.hid htk
        clear hA hzl htl htk
        go_wp2
        go_ret2
        exact ⟨ret_ints (by rw [HF.out.1, HK.out]) HF.out.2.symm, rfl⟩

set_option maxHeartbeats 1000000 in
theorem sum_any (A : Option Addr) (n c : Nat) (zs : List Int) (w : World) (hA : Ints w A n zs) (hn : n ≤ maxLen) :
    Calls Tryd.prog 15 #[.slice A n c] w fun e w' => e = .returned (.tuple #[.int .i64 (sumV zs), .int .i64 (sumE zs)]) ∧ w = w' := by
  have hC := Lib.hid (total_any A n c zs w hA hn)
  clear hA hn
  rcases tot_cases zs with ⟨h, h2⟩ | ⟨h, h2⟩ | h
  · have HF := Lib.hid (sum_of_tot (.inl h))
    go_enter Tryd.func15, Tryd.ntmps15
    go_wp2_with (go_at_call 35; refine hC.out.mono ?_; rintro e w1 ⟨rfl, rfl⟩)
    go_ret2
    exact ⟨ret_ints HF.out.1.symm (by rw [HF.out.2, h]), rfl⟩
  · have HF := Lib.hid (sum_of_tot (.inr h))
    go_enter Tryd.func15, Tryd.ntmps15
    go_wp2_with (go_at_call 35; refine hC.out.mono ?_; rintro e w1 ⟨rfl, rfl⟩)
    go_ret2
    exact ⟨ret_ints HF.out.1.symm (by rw [HF.out.2, h]), rfl⟩
  · cases h2 : okA (totV zs) with
    | false =>
      have HF := Lib.hid (sum_range h h2)
      go_enter Tryd.func15, Tryd.ntmps15
      go_wp2_with (first
        | (go_at_call 35; refine hC.out.mono ?_; rintro e w1 ⟨rfl, rfl⟩)
        | (go_at_call 17; refine (valid_any _ _).mono ?_; rintro e w1 ⟨rfl, rfl⟩))
      go_ret2
      exact ⟨ret_ints HF.out.1.symm HF.out.2.symm, rfl⟩
    | true =>
      have HF := Lib.hid (sum_good h h2)
      go_enter Tryd.func15, Tryd.ntmps15
      go_wp2_with (first
        | (go_at_call 35; refine hC.out.mono ?_; rintro e w1 ⟨rfl, rfl⟩)
        | (go_at_call 17; refine (valid_any _ _).mono ?_; rintro e w1 ⟨rfl, rfl⟩))
      go_ret2
      exact ⟨ret_ints HF.out.1.symm HF.out.2.symm, rfl⟩

set_option maxHeartbeats 1000000 in
theorem refSum_any (A : Option Addr) (n c : Nat) (zs : List Int) (w : World) (hA : Ints w A n zs) (hn : n ≤ maxLen) :
    Calls Tryd.prog 16 #[.slice A n c] w fun e w' => e = .returned (.tuple #[.int .i64 (sumV zs), .int .i64 (sumE zs)]) ∧ w = w' := by
  unfold maxLen at hn
  by_cases hl : 4096 < n
  · have h0 := tot_long (zs := zs) (by rw [hA.1]; exact hl)
    have h1 := sum_of_tot (.inl h0.2)
    rw [h0.2] at h1
    have HF := Lib.hid h1
    have hl' : (4096 : Int) < (n : Int) := by omega
    clear h0 h1
    go_enter Tryd.func16, Tryd.ntmps16
    go_wp2
    go_ret2
    exact ⟨ret_ints HF.out.1.symm HF.out.2.symm, rfl⟩
  · go_enter Tryd.func16, Tryd.ntmps16
    go_wp2
    go_loop [4, 5] (fun v i => ∃ k : Nat, k ≤ n ∧ i = .int .i64 k ∧ (zs.take k).all okA = true ∧ v = .int .i64 (zs.take k).sum) (fun _ i => n - (intOf i).toNat)
    case atStart => exact ⟨0, by omega, rfl, rfl, rfl⟩
    case round =>
      obtain ⟨k, hk, rfl, hall, rfl⟩ := hrel
      have hsb := sum_bound hall
      have hzl : zs.length = n := hA.1
      have htl : (zs.take k).length = k := by rw [List.length_take]; omega
      rw [htl] at hsb
      have H := Lib.hid hall; clear hall
      by_cases hlt : k < n
      · obtain ⟨b, off, rfl, hbl, hc⟩ := hA.2.2 k hlt
        have hr := hA.range k hlt
        have hts := take_step zs k (by omega)
        have hbad := all_bad (zs := zs) (k := k) (by omega)
        obtain ⟨z, hz⟩ : ∃ z, zs[k]?.getD 0 = z := ⟨_, rfl⟩
        rw [hz] at hc hr hts hbad
        have HT := Lib.hid hts
        have HZ := Lib.hid hzl
        clear hA hz hts hzl htl
        cases hok : okA z with
        | false =>
          have h0 := tot_bad (zs := zs) (by rw [HZ.out]; omega) (hbad hok)
          have h1 := sum_of_tot (.inr h0.2)
          rw [h0.2] at h1
          have HF := Lib.hid h1
          clear hbad h0 h1
          go_wp2_with (go_at_call 18; refine (refValid_any _ _).mono ?_; rintro e w1 ⟨rfl, rfl⟩)
          go_ret2
          exact ⟨ret_ints HF.out.1.symm HF.out.2.symm, rfl⟩
        | true =>
          clear hbad
          have hzb := okA_iff.1 hok
          obtain ⟨t, ht⟩ : ∃ t, (zs.take k).sum = t := ⟨_, rfl⟩
          rw [ht] at hsb ⊢
          have HS := Lib.hid ht; clear ht
          have HO := Lib.hid hok
          go_wp2_with (go_at_call 18; refine (refValid_any _ _).mono ?_; rintro e w1 ⟨rfl, rfl⟩)
          go_round
          case rel => exact ⟨k + 1, by omega, by go_num, by rw [HT.out, List.all_append, H.out]; simp [HO.out], by rw [HT.out, List.sum_append, HS.out]; simp⟩
          case measure => simp [intOf]; omega
      · obtain rfl : k = n := by omega
        have htk : zs.take k = zs := List.take_of_length_le (by omega)
        have h0 := tot_good (zs := zs) (by omega) (by rw [← htk]; exact H.out)
        rw [htk] at hsb ⊢
        cases hok : okA zs.sum with
        | false =>
          have HF := Lib.hid (sum_range h0.2 (by rw [h0.1]; exact hok))
          clear hA hzl htl htk h0
          go_wp2_with (go_at_call 18; refine (refValid_any _ _).mono ?_; rintro e w1 ⟨rfl, rfl⟩)
          go_ret2
          exact ⟨ret_ints HF.out.1.symm HF.out.2.symm, rfl⟩
        | true =>
          have HF := Lib.hid (sum_good h0.2 (by rw [h0.1]; exact hok))
          have HG := Lib.hid h0.1
          clear hA hzl htl htk h0
          go_wp2_with (go_at_call 18; refine (refValid_any _ _).mono ?_; rintro e w1 ⟨rfl, rfl⟩)
          go_ret2
          exact ⟨ret_ints (by rw [HF.out.1, HG.out]) HF.out.2.symm, rfl⟩
end Go.Proofs.YtieehofijndelaaDoor
