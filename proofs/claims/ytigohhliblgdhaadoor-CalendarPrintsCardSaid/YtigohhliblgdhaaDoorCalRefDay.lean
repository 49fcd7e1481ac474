/- Walks: the reference's number of a date's day. -/
import Derived.Test.YtigohhliblgdhaaDoorCalDay
namespace Go.Proofs.YtigohhliblgdhaaDoor
open Go.RowKit

set_option maxHeartbeats 2000000 in
theorem refBefore_any (y m : Int) (w : World) (hy : 2000 ≤ y) (hy2 : y ≤ 2399) (hm : 1 ≤ m) (hm2 : m ≤ 12) :
    Calls Tryd.prog 29 #[.int .i64 y, .int .i64 m] w fun e w' => e = .returned (.int .i64 (nyr y + cum y (m - 1).toNat)) ∧ w = w' := by
  obtain ⟨R, hR⟩ : ∃ R, nyr y + cum y (m - 1).toNat = R := ⟨_, rfl⟩
  rw [hR]
  have HR := Lib.hid hR; clear hR
  go_enter Tryd.func29, Tryd.ntmps29
  go_wp2
  go_loop [5, 6] (fun v i => ∃ k : Int, 2000 ≤ k ∧ k ≤ y ∧ i = .int .i64 k ∧ v = .int .i64 (nyr k)) (fun _ i => (y - intOf i).toNat)
  case atStart => exact ⟨2000, by omega, by omega, rfl, by rw [show nyr 2000 = 0 by decide]⟩
  case round =>
    obtain ⟨k, hk, hk2, rfl, rfl⟩ := hrel
    have nb := nyr_bd k hk (by omega)
    have HS := Lib.hid (nyr_succ k hk)
    have lp := lpI_01 k
    by_cases hlt : k < y
    · have HY := Lib.hid (fun w => refYear_any k w (by omega) (by omega))
      obtain ⟨N, hN⟩ : ∃ N, nyr k = N := ⟨_, rfl⟩
      rw [hN] at nb HS ⊢
      clear hN
      go_wp2_with (go_at_call 33; refine (HY.out _).mono ?_; rintro e w2 ⟨rfl, rfl⟩)
      go_round
      case rel => exact ⟨k + 1, by omega, by omega, rfl, by rw [HS.out]; go_num⟩
      case measure => simp [intOf]; omega
    · obtain rfl : k = y := by omega
      obtain ⟨N, hN⟩ : ∃ N, nyr k = N := ⟨_, rfl⟩
      rw [hN] at nb ⊢
      have HN := Lib.hid hN
      clear hN HS
      go_wp2
      go_loop [5, 7] (fun v i => ∃ j : Nat, (j : Int) + 1 ≤ m ∧ i = .int .i64 ((j : Int) + 1) ∧ v = .int .i64 (N + cum k j)) (fun _ i => (m - intOf i).toNat)
      case atStart => exact ⟨0, by omega, by simp, by simp [cum]⟩
      case round =>
        obtain ⟨j, hj, rfl, rfl⟩ := hrel
        have cb := cum_le k j
        have cs := cum_step k j
        have lb := len_bd k ((j : Int) + 1)
        have HK := Lib.hid (fun w => refLength_any k ((j : Int) + 1) w)
        obtain ⟨l2, hl2⟩ : ∃ l2, lenI k ((j : Int) + 1) = l2 := ⟨_, rfl⟩
        rw [hl2] at cs lb HK
        obtain ⟨c, hc⟩ : ∃ c, cum k j = c := ⟨_, rfl⟩
        rw [hc] at cs cb ⊢
        have HC := Lib.hid hc; have HS := Lib.hid cs
        clear hl2 hc cs
        by_cases hlt2 : (j : Int) + 1 < m
        · go_wp2_with (go_at_call 12; refine (HK.out _).mono ?_; rintro e w2 ⟨rfl, rfl⟩)
          go_round
          case rel => exact ⟨j + 1, by omega, by go_num, by rw [HS.out]; go_num⟩
          case measure => simp [intOf]; omega
        · have hkm : (m - 1).toNat = j := by omega
          have HM := Lib.hid hkm; clear hkm
          go_wp2
          go_ret
          exact ⟨ret_int (by rw [← HR.out, HM.out, HC.out, HN.out]), rfl⟩

set_option maxHeartbeats 2000000 in
theorem refDay_out (y m d : Int) (w : World) (h : okD y m d = false) :
    Calls Tryd.prog 10 #[.agg #[.int .i64 y, .int .i64 m, .int .i64 d]] w fun e w' => e = .returned (.tuple #[.int .i64 (dayV y m d), .int .i64 (dayE y m d)]) ∧ Below w.heap.size w w' := by
  have HF := Lib.hid (day_bad h)
  rcases okD_no h with h1 | ⟨h1, h2⟩
  · have h1' : decide (d < 1) = true := by simpa using h1
    clear h
    go_enter Tryd.func10, Tryd.ntmps10
    go_wp2
    go_quiet (fail)
    go_wp2
    go_ret2
    exact ⟨ret_ints HF.out.1.symm HF.out.2.symm, below_drewN ((Below.refl _ _).alloc (Nat.le_refl _) _) _⟩
  · have HL := Lib.hid (fun w => refLength_any y m w)
    generalize lenI y m = l at h2 HL
    have h1' : decide (d < 1) = false := by simpa using h1
    clear h
    go_enter Tryd.func10, Tryd.ntmps10
    go_wp2
    go_region_held3 (fun w' => w'.cell? ⟨w.heap.size, 0, none⟩ = some (.int .i64 y) ∧ w'.cell? ⟨w.heap.size, 1, none⟩ = some (.int .i64 m) ∧ w'.cell? ⟨w.heap.size, 2, none⟩ = some (.int .i64 d)) (go_keep)
      (first | (go_at_call 12; refine (HL.out _).mono ?_; rintro e w1 ⟨rfl, rfl⟩))
    go_wp2
    go_ret2
    exact ⟨ret_ints HF.out.1.symm HF.out.2.symm, below_drewN ((Below.refl _ _).alloc (Nat.le_refl _) _) 1⟩
set_option maxHeartbeats 2000000 in
theorem refDay_in (y m d : Int) (w : World) (h : okD y m d = true) :
    Calls Tryd.prog 10 #[.agg #[.int .i64 y, .int .i64 m, .int .i64 d]] w fun e w' => e = .returned (.tuple #[.int .i64 (dayV y m d), .int .i64 (dayE y m d)]) ∧ Below w.heap.size w w' := by
  have HF := Lib.hid (day_good h)
  obtain ⟨hy, hy2, hm, hm2⟩ := okM_iff.1 (okM_of h)
  obtain ⟨hd, hd2⟩ := okD_iff.1 h
  have hl31 := (len_bd y m).2
  have HL := Lib.hid (fun w => refLength_any y m w)
  have HN := Lib.hid (fun w => refBefore_any y m w hy hy2 hm hm2)
  have ny := nyr_bd y hy (by omega)
  have nc := cum_le y (m - 1).toNat
  have HV : Hid (dayI y m d = nyr y + cum y (m - 1).toNat + d - 1) := rfl
  obtain ⟨l, hl⟩ : ∃ l, lenI y m = l := ⟨_, rfl⟩
  rw [hl] at HL hd2 hl31
  have hnb : 0 ≤ nyr y + cum y (m - 1).toNat ∧ nyr y + cum y (m - 1).toNat ≤ 200000 := by omega
  obtain ⟨N, hN⟩ : ∃ N, nyr y + cum y (m - 1).toNat = N := ⟨_, rfl⟩
  rw [hN] at HN hnb HV
  have hd1 : decide (d < 1) = false := decide_eq_false (by omega)
  have hd3 : ¬ l < d := by omega
  clear h hl hN ny nc
  have wr1 : IntKind.i64.wrap (N + d) = N + d := IntWalk.i64_in _ (by omega)
  have wr2 : IntKind.i64.wrap (N + d - 1) = N + d - 1 := IntWalk.i64_in _ (by omega)
  go_enter Tryd.func10, Tryd.ntmps10
  go_wp2
  go_region_held3 (fun w' => w'.cell? ⟨w.heap.size, 0, none⟩ = some (.int .i64 y) ∧ w'.cell? ⟨w.heap.size, 1, none⟩ = some (.int .i64 m) ∧ w'.cell? ⟨w.heap.size, 2, none⟩ = some (.int .i64 d)) (go_keep)
    (first | (go_at_call 12; refine (HL.out _).mono ?_; rintro e w1 ⟨rfl, rfl⟩))
  go_wp2
  go_region_held3 (fun w' => w'.cell? ⟨w.heap.size, 0, none⟩ = some (.int .i64 y) ∧ w'.cell? ⟨w.heap.size, 1, none⟩ = some (.int .i64 m) ∧ w'.cell? ⟨w.heap.size, 2, none⟩ = some (.int .i64 d)) (go_keep)
    (first | (go_at_call 29; refine (HN.out _).mono ?_; rintro e w1 ⟨rfl, rfl⟩))
  clear wr1 wr2
  go_wp2
  go_ret2
  exact ⟨ret_ints (by rw [HF.out.1, HV.out]) HF.out.2.symm, below_drewN ((Below.refl _ _).alloc (Nat.le_refl _) _) 2⟩
theorem refDay_any (y m d : Int) (w : World) :
    Calls Tryd.prog 10 #[.agg #[.int .i64 y, .int .i64 m, .int .i64 d]] w fun e w' => e = .returned (.tuple #[.int .i64 (dayV y m d), .int .i64 (dayE y m d)]) ∧ Below w.heap.size w w' := by
  cases h : okD y m d
  · exact refDay_out y m d w h
  · exact refDay_in y m d w h
end Go.Proofs.YtigohhliblgdhaaDoor
