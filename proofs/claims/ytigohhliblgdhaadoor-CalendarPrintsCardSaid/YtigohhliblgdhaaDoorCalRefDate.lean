/- Walks: the reference's date of a day; days of the week. -/
import Derived.Test.YtigohhliblgdhaaDoorCalDate
namespace Go.Proofs.YtigohhliblgdhaaDoor
open Go.RowKit

set_option maxHeartbeats 4000000 in
theorem refDate_in (n : Int) (w : World) (h : 0 ≤ n) (h2 : n < 146097) :
    Calls Tryd.prog 15 #[.int .i64 n] w fun e w' => e = .returned (.agg #[.int .i64 (yrI n), .int .i64 (moI n), .int .i64 (dyI n)]) ∧ Below w.heap.size w w' := by
  obtain ⟨Y, hY⟩ : ∃ Y, yrI n = Y := ⟨_, rfl⟩
  obtain ⟨M, hM⟩ : ∃ M, moI n = M := ⟨_, rfl⟩
  obtain ⟨D, hD⟩ : ∃ D, dyI n = D := ⟨_, rfl⟩
  rw [hY, hM, hD]
  have HY := Lib.hid hY; have HM := Lib.hid hM; have HD := Lib.hid hD
  clear hY hM hD
  have h3 : ¬ n < 0 := by omega
  have h4 : ¬ 146097 ≤ n := by omega
  go_enter Tryd.func15, Tryd.ntmps15
  go_wp2
  clear h3 h4
  go_loop [3, 5] (fun t r => ∃ y N : Int, 2000 ≤ y ∧ y ≤ 2399 ∧ Hid (nyr y = N) ∧ N ≤ n ∧ 0 ≤ N ∧ t = .int .i64 y ∧ r = .int .i64 (n - N)) (fun t _ => (2399 - intOf t).toNat)
  case atStart => exact ⟨2000, 0, by omega, by omega, (show nyr 2000 = 0 by decide), by omega, by omega, rfl, by simp⟩
  case round =>
    obtain ⟨y, N, hy, hy2, HN, hy3, hN0, rfl, rfl⟩ := hrel
    have HR := Lib.hid (fun w => refYear_any y w (by omega) (by omega))
    have hs := nyr_succ y hy
    rw [HN.out] at hs
    have lb := lpI_01 y
    have cy := cum_year y hy hy2
    have hlim : y = 2399 → n < N + 365 + lpI y := by rintro rfl; rw [← hs, show nyr (2399 + 1) = 146097 by decide]; exact h2
    obtain ⟨lp, hlp⟩ : ∃ lp, lpI y = lp := ⟨_, rfl⟩
    rw [hlp] at HR hs lb cy hlim
    by_cases hc : n - N ≥ 365 + lp
    · have hy4 : y + 1 ≤ 2399 := by
        rcases lt_or_le' y 2399 with h5 | h5
        · omega
        · exact absurd (hlim (by omega)) (by omega)
      have HS := Lib.hid hs
      clear hlim hlp cy hs
      go_wp2_with (go_at_call 33; refine (HR.out _).mono ?_; rintro e w1 ⟨rfl, rfl⟩)
      go_round
      case rel => exact ⟨y + 1, N + 365 + lp, by omega, hy4, HS.out, by omega, by omega, rfl, by go_num⟩
      case measure => simp [intOf]; omega
    · have HC12 : Hid (n - N < cum y 12) := by rw [cy]; exact (by omega : n - N < 365 + lp)
      have hc' : ¬ (365 + lp ≤ n - N) := by omega
      clear hlim hlp cy hs
      go_wp2_with (go_at_call 33; refine (HR.out _).mono ?_; rintro e w1 ⟨rfl, rfl⟩)
      go_loop [4, 5] (fun i r => ∃ (k : Nat) (c : Int), k ≤ 11 ∧ i = .int .i64 ((k : Int) + 1) ∧ Hid (cum y k = c) ∧ 0 ≤ c ∧ c ≤ n - N ∧ r = .int .i64 (n - N - c)) (fun i _ => (12 - intOf i).toNat)
      case atStart => exact ⟨0, 0, by omega, rfl, rfl, by omega, by omega, by simp⟩
      case round =>
        obtain ⟨k, c, hk, rfl, HC, hc0, hc1, rfl⟩ := hrel
        have cs := cum_step y k
        rw [HC.out] at cs
        have lb2 := len_bd y ((k : Int) + 1)
        have HK := Lib.hid (fun w => refLength_any y ((k : Int) + 1) w)
        have HM2 := Lib.hid (fun (r : Int) (e : n - nyr y - cum y k = r) => month_end hy hy2 hk e)
        obtain ⟨l, hl⟩ : ∃ l, lenI y ((k : Int) + 1) = l := ⟨_, rfl⟩
        rw [hl] at cs lb2 HK HM2
        have hlast : n - N - c ≥ l → k + 1 ≤ 11 := by
          intro h5
          rcases Nat.lt_or_ge k 11 with h6 | h6
          · omega
          · obtain rfl : k = 11 := by omega
            have := HC12.out
            rw [cs] at this; omega
        have HS := Lib.hid cs
        clear cs hl
        by_cases hge : n - N - c ≥ l
        · have hk2 := hlast hge
          clear hlast
          go_wp2_with (go_at_call 12; refine (HK.out _).mono ?_; rintro e w2 ⟨rfl, rfl⟩)
          go_round
          case rel => exact ⟨k + 1, c + l, hk2, by go_num, HS.out, by omega, by omega, by go_num⟩
          case measure => simp [intOf]; omega
        · clear hlast
          have hge' : ¬ l ≤ n - N - c := by omega
          obtain ⟨e1, e2, e3⟩ := HM2.out (n - N - c) (by rw [HN.out, HC.out]) (by omega) (by omega)
          have HF := Lib.hid (And.intro e1 (And.intro e2 e3))
          clear e1 e2 e3
          go_wp2_with (go_at_call 12; refine (HK.out _).mono ?_; rintro e w2 ⟨rfl, rfl⟩)
          refine bodyPost_ret (v := .agg #[.int .i64 y, .int .i64 ((k : Int) + 1), .int .i64 (n - N - c + 1)]) (by simp [results, Tryd.results15, go_sem]) rfl ⟨?_, ?_⟩
          · exact ret_date (by rw [← HF.out.1, HY.out]) (by rw [← HF.out.2.1, HM.out]) (by rw [← HF.out.2.2, HD.out])
          · first
              | exact (Below.refl _ _).alloc (Nat.le_refl _) _
              | exact ((((Below.refl _ _).alloc (Nat.le_refl _) _).setCell (by simp) _).setCell (by simp) _).setCell (by simp) _

/-- The parts of the date of a day. -/
def dateV (n : Int) : Value := if 0 ≤ n ∧ n < 146097 then .agg #[.int .i64 (yrI n), .int .i64 (moI n), .int .i64 (dyI n)] else .agg #[.int .i64 0, .int .i64 0, .int .i64 0]
theorem date_any (n : Int) (w : World) : Calls Tryd.prog 14 #[.int .i64 n] w fun e w' => e = .returned (dateV n) ∧ Below w.heap.size w w' := by
  unfold dateV
  split
  · exact date_in n w (by omega) (by omega)
  · exact date_out n w (by omega)
theorem refDate_any (n : Int) (w : World) : Calls Tryd.prog 15 #[.int .i64 n] w fun e w' => e = .returned (dateV n) ∧ Below w.heap.size w w' := by
  unfold dateV
  split
  · exact refDate_in n w (by omega) (by omega)
  · exact refDate_out n w (by omega)

/-- The weekday of a day. -/
def wkI (n : Int) : Int := if 0 ≤ n ∧ n < 146097 then (n + 5) % 7 else -1
theorem weekday_any (n : Int) (w : World) : Calls Tryd.prog 16 #[.int .i64 n] w fun e w' => e = .returned (.int .i64 (wkI n)) ∧ w = w' := by
  unfold wkI
  split
  · rename_i h
    have H := Lib.hid (fun w => validDay_yes n w h.1 h.2)
    obtain ⟨h1, h2⟩ := h
    go_enter Tryd.func16, Tryd.ntmps16
    go_wp2_with (go_at_call 32; refine (H.out _).mono ?_; rintro e w1 ⟨rfl, rfl⟩)
    go_ret
    exact ⟨rfl, rfl⟩
  · have H := Lib.hid (fun w => validDay_no n w (by omega))
    go_enter Tryd.func16, Tryd.ntmps16
    go_wp2_with (go_at_call 32; refine (H.out _).mono ?_; rintro e w1 ⟨rfl, rfl⟩)
    go_ret
    exact ⟨rfl, rfl⟩
theorem refWeekday_any (n : Int) (w : World) : Calls Tryd.prog 17 #[.int .i64 n] w fun e w' => e = .returned (.int .i64 (wkI n)) ∧ w = w' := by
  unfold wkI
  split
  · rename_i h
    obtain ⟨h1, h2⟩ := h
    have h3 : ¬ n < 0 := by omega
    have h4 : ¬ 146097 ≤ n := by omega
    go_enter Tryd.func17, Tryd.ntmps17
    go_wp2
    go_ret
    exact ⟨rfl, rfl⟩
  · rename_i h
    rcases lt_or_le' n 0 with h1 | h1
    · go_enter Tryd.func17, Tryd.ntmps17
      go_wp2
      go_ret
      exact ⟨rfl, rfl⟩
    · have h3 : ¬ n < 0 := by omega
      have h4 : 146097 ≤ n := by omega
      go_enter Tryd.func17, Tryd.ntmps17
      go_wp2
      go_ret
      exact ⟨rfl, rfl⟩
end Go.Proofs.YtigohhliblgdhaaDoor
