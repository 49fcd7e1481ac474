/- Walks: leap years, months, the first days of years; in the program and in the reference. -/
import Derived.Test.YtigohhliblgdhaaDoorCalM
import Derived.Test.YtigohhliblgdhaaDoorProg
namespace Go.Proofs.YtigohhliblgdhaaDoor
open Go.RowKit

theorem leap_facts (y : Int) : ∃ p q r : Bool, ((y % 4 : Int) == 0) = p ∧ ((y % 100 : Int) == 0) = q ∧ ((y % 100 : Int) != 0) = !q ∧ ((y % 400 : Int) == 0) = r ∧ leapI y = (p && (!q || r)) :=
  ⟨_, _, _, rfl, rfl, rfl, rfl, rfl⟩
set_option maxHeartbeats 1000000 in
theorem isLeap_any (y : Int) (w : World) (h : 0 ≤ y) (h2 : y ≤ 100000) : Calls Tryd.prog 30 #[.int .i64 y] w fun e w' => e = .returned (.bool (leapI y)) ∧ w = w' := by
  obtain ⟨p, q, r, h4, h100, h100', h400, hl⟩ := leap_facts y
  rw [hl]; clear hl
  cases p <;> cases q <;> cases r
  all_goals
    go_enter Tryd.func30, Tryd.ntmps30
    go_wp2
    go_ret
    exact ⟨rfl, rfl⟩
set_option maxHeartbeats 1000000 in
theorem refLeap_any (y : Int) (w : World) (h : 0 ≤ y) (h2 : y ≤ 100000) : Calls Tryd.prog 31 #[.int .i64 y] w fun e w' => e = .returned (.bool (leapI y)) ∧ w = w' := by
  obtain ⟨p, q, r, h4, h100, h100', h400, hl⟩ := leap_facts y
  rw [hl]; clear hl
  cases p <;> cases q <;> cases r
  all_goals
    go_enter Tryd.func31, Tryd.ntmps31
    go_wp2
    go_ret
    exact ⟨rfl, rfl⟩
theorem isLeap_is (y : Int) (b : Bool) (hb : leapI y = b) (w : World) (h : 0 ≤ y) (h2 : y ≤ 100000) : Calls Tryd.prog 30 #[.int .i64 y] w fun e w' => e = .returned (.bool b) ∧ w = w' := by
  subst hb; exact isLeap_any y w h h2
theorem refLeap_is (y : Int) (b : Bool) (hb : leapI y = b) (w : World) (h : 0 ≤ y) (h2 : y ≤ 100000) : Calls Tryd.prog 31 #[.int .i64 y] w fun e w' => e = .returned (.bool b) ∧ w = w' := by
  subst hb; exact refLeap_any y w h h2

theorem newYear_any (y : Int) (w : World) (h : 2000 ≤ y) (h2 : y ≤ 2400) : Calls Tryd.prog 28 #[.int .i64 y] w fun e w' => e = .returned (.int .i64 (nyr y)) ∧ w = w' := by
  go_enter Tryd.func28, Tryd.ntmps28
  go_wp2
  go_ret
  exact ⟨ret_int (by unfold nyr; omega), rfl⟩
theorem validDay_yes (n : Int) (w : World) (h : 0 ≤ n) (h2 : n < 146097) : Calls Tryd.prog 32 #[.int .i64 n] w fun e w' => e = .returned (.bool true) ∧ w = w' := by
  go_enter Tryd.func32, Tryd.ntmps32
  go_wp2
  go_ret
  exact ⟨rfl, rfl⟩
theorem validDay_no (n : Int) (w : World) (h : n < 0 ∨ 146097 ≤ n) : Calls Tryd.prog 32 #[.int .i64 n] w fun e w' => e = .returned (.bool false) ∧ w = w' := by
  rcases h with h | h
  · have h' : ¬ 0 ≤ n := by omega
    go_enter Tryd.func32, Tryd.ntmps32
    go_wp2
    go_ret
    exact ⟨rfl, rfl⟩
  · have h' : 0 ≤ n := by omega
    have h'' : ¬ n < 146097 := by omega
    go_enter Tryd.func32, Tryd.ntmps32
    go_wp2
    go_ret
    exact ⟨rfl, rfl⟩
theorem refYear_any (y : Int) (w : World) (h : 0 ≤ y) (h2 : y ≤ 100000) : Calls Tryd.prog 33 #[.int .i64 y] w fun e w' => e = .returned (.int .i64 (365 + lpI y)) ∧ w = w' := by
  obtain ⟨b, hl⟩ : ∃ b, leapI y = b := ⟨_, rfl⟩
  have H := Lib.hid (refLeap_is y b hl w h h2)
  have HE : lpI y = if b then 1 else 0 := by unfold lpI; rw [hl]
  rw [HE]; clear hl HE
  cases b
  all_goals
    go_enter Tryd.func33, Tryd.ntmps33
    go_wp2_with (go_at_call 31; refine H.out.mono ?_; rintro e w1 ⟨rfl, rfl⟩)
    go_ret
    exact ⟨rfl, rfl⟩

/-- The ways in which a month fails. -/
theorem okM_no {y m : Int} (h : okM y m = false) : y < 2000 ∨ (¬ y < 2000 ∧ 2399 < y) ∨ (¬ y < 2000 ∧ ¬ 2399 < y ∧ m < 1) ∨ (¬ y < 2000 ∧ ¬ 2399 < y ∧ ¬ m < 1 ∧ 12 < m) := by
  have : ¬ (2000 ≤ y ∧ y ≤ 2399 ∧ 1 ≤ m ∧ m ≤ 12) := fun h2 => by rw [okM_iff.2 h2] at h; cases h
  omega
theorem month_cases {m : Int} (h : 1 ≤ m) (h2 : m ≤ 12) : m = 1 ∨ m = 2 ∨ m = 3 ∨ m = 4 ∨ m = 5 ∨ m = 6 ∨ m = 7 ∨ m = 8 ∨ m = 9 ∨ m = 10 ∨ m = 11 ∨ m = 12 := by omega

theorem length_out (y m : Int) (w : World) (h : okM y m = false) : Calls Tryd.prog 11 #[.int .i64 y, .int .i64 m] w fun e w' => e = .returned (.int .i64 0) ∧ w = w' := by
  rcases okM_no h with h1 | ⟨h1, h2⟩ | ⟨h1, h2, h3⟩ | ⟨h1, h2, h3, h4⟩
  all_goals
    clear h
    go_enter Tryd.func11, Tryd.ntmps11
    go_wp2
    go_ret
    exact ⟨rfl, rfl⟩
theorem refLength_out (y m : Int) (w : World) (h : okM y m = false) : Calls Tryd.prog 12 #[.int .i64 y, .int .i64 m] w fun e w' => e = .returned (.int .i64 0) ∧ w = w' := by
  rcases okM_no h with h1 | ⟨h1, h2⟩ | ⟨h1, h2, h3⟩ | ⟨h1, h2, h3, h4⟩
  all_goals
    clear h
    go_enter Tryd.func12, Tryd.ntmps12
    go_wp2
    go_ret
    exact ⟨rfl, rfl⟩
set_option maxHeartbeats 4000000 in
theorem length_in (y m : Int) (w : World) (h : okM y m = true) : Calls Tryd.prog 11 #[.int .i64 y, .int .i64 m] w fun e w' => e = .returned (.int .i64 (lenI y m)) ∧ Below w.heap.size w w' := by
  obtain ⟨h1, h2, h3, h4⟩ := okM_iff.1 h
  have hl : lenI y m = (if m = 2 then 28 + lpI y else if m = 4 ∨ m = 6 ∨ m = 9 ∨ m = 11 then 30 else 31) := by unfold lenI; rw [if_pos h]
  rw [hl]; clear hl h
  have h1' : ¬ y < 2000 := by omega
  have h2' : ¬ 2399 < y := by omega
  obtain ⟨b, hb⟩ : ∃ b, leapI y = b := ⟨_, rfl⟩
  have H := Lib.hid (fun w => isLeap_is y b hb w (by omega) (by omega))
  have HE : lpI y = if b then 1 else 0 := by unfold lpI; rw [hb]
  rw [HE]; clear hb HE
  rcases month_cases h3 h4 with rfl | rfl | rfl | rfl | rfl | rfl | rfl | rfl | rfl | rfl | rfl | rfl
  case' inr.inl => cases b
  all_goals
      go_enter Tryd.func11, Tryd.ntmps11
      go_wp2_with (go_at_call 30; refine (H.out _).mono ?_; rintro e w1 ⟨rfl, rfl⟩)
      go_ret
      first | exact ⟨rfl, Below.refl _ _⟩ | exact ⟨rfl, (Below.refl _ _).alloc (Nat.le_refl _) _⟩
set_option maxHeartbeats 4000000 in
theorem refLength_in (y m : Int) (w : World) (h : okM y m = true) : Calls Tryd.prog 12 #[.int .i64 y, .int .i64 m] w fun e w' => e = .returned (.int .i64 (lenI y m)) ∧ w = w' := by
  obtain ⟨h1, h2, h3, h4⟩ := okM_iff.1 h
  have hl : lenI y m = (if m = 2 then 28 + lpI y else if m = 4 ∨ m = 6 ∨ m = 9 ∨ m = 11 then 30 else 31) := by unfold lenI; rw [if_pos h]
  rw [hl]; clear hl h
  have h1' : ¬ y < 2000 := by omega
  have h2' : ¬ 2399 < y := by omega
  obtain ⟨b, hb⟩ : ∃ b, leapI y = b := ⟨_, rfl⟩
  have H := Lib.hid (fun w => refLeap_is y b hb w (by omega) (by omega))
  have HE : lpI y = if b then 1 else 0 := by unfold lpI; rw [hb]
  rw [HE]; clear hb HE
  rcases month_cases h3 h4 with rfl | rfl | rfl | rfl | rfl | rfl | rfl | rfl | rfl | rfl | rfl | rfl
  case' inr.inl => cases b
  all_goals
      go_enter Tryd.func12, Tryd.ntmps12
      go_wp2_with (go_at_call 31; refine (H.out _).mono ?_; rintro e w1 ⟨rfl, rfl⟩)
      go_ret
      exact ⟨rfl, rfl⟩
theorem length_any (y m : Int) (w : World) : Calls Tryd.prog 11 #[.int .i64 y, .int .i64 m] w fun e w' => e = .returned (.int .i64 (lenI y m)) ∧ Below w.heap.size w w' := by
  cases h : okM y m
  · exact (length_out y m w h).mono fun e w' ⟨he, hw⟩ => ⟨by rw [he, len_out h], by rw [← hw]; exact Below.refl _ _⟩
  · exact length_in y m w h
theorem refLength_any (y m : Int) (w : World) : Calls Tryd.prog 12 #[.int .i64 y, .int .i64 m] w fun e w' => e = .returned (.int .i64 (lenI y m)) ∧ w = w' := by
  cases h : okM y m
  · exact (refLength_out y m w h).mono fun e w' ⟨he, hw⟩ => ⟨by rw [he, len_out h], hw⟩
  · exact refLength_in y m w h
end Go.Proofs.YtigohhliblgdhaaDoor
