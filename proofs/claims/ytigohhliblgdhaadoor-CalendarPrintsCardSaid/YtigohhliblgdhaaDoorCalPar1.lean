/- Walks: the number that digits denote; whether a text has the form of a date. -/
import Derived.Test.YtigohhliblgdhaaDoorCalTxt
namespace Go.Proofs.YtigohhliblgdhaaDoor
open Go.RowKit

theorem take_snoc (s : ByteArray) (k : Nat) (h : k < s.size) : s.data.toList.take (k + 1) = s.data.toList.take k ++ [s[k]] := by
  rw [List.take_succ_eq_append_getElem (by simpa using h)]; rfl
theorem take_all (s : ByteArray) : s.data.toList.take s.size = s.data.toList := List.take_of_length_le (by simp)
theorem all_not {s : ByteArray} {k : Nat} (h : k < s.size) (hc : dgt s[k] = false) : s.data.toList.all dgt = false := by
  rw [List.all_eq_false]
  exact ⟨s[k], by simp [ByteArray.getElem_eq_getElem_data], by simp [hc]⟩
theorem dgt_at {s : ByteArray} {k : Nat} (h : k < s.size) (ha : s.data.toList.all dgt = true) : dgt s[k] = true := by
  rw [List.all_eq_true] at ha
  exact ha s[k] (by simp [ByteArray.getElem_eq_getElem_data])
theorem take_dgt {s : ByteArray} {k : Nat} (ha : s.data.toList.all dgt = true) : (s.data.toList.take k).all dgt = true := by
  rw [List.all_eq_true] at ha ⊢
  exact fun x hx => ha x (List.mem_of_mem_take hx)
theorem num_lim {l : List UInt8} {k : Nat} (h : l.all dgt = true) (hl : l.length ≤ k) (hk : k ≤ 10) : 0 ≤ numL l ∧ numL l < 10000000000 := by
  obtain ⟨h1, h2⟩ := numL_bd l h
  refine ⟨h1, Int.lt_of_lt_of_le h2 ?_⟩
  have : (10 : Int) ^ l.length ≤ 10 ^ 10 := by
    have := Nat.pow_le_pow_right (n := 10) (by decide) (show l.length ≤ 10 by omega)
    exact_mod_cast this
  have e : (10 : Int) ^ 10 = 10000000000 := by decide
  omega

set_option maxHeartbeats 1000000 in
theorem number_any (s : ByteArray) (w : World) (hs : s.size ≤ 10) (ha : s.data.toList.all dgt = true) :
    Calls Tryd.prog 35 #[.string s] w fun e w' => e = .returned (.int .i64 (numL s.data.toList)) ∧ w = w' := by
  have HA := Lib.hid ha; clear ha
  go_enter Tryd.func35, Tryd.ntmps35
  go_wp2
  go_loop [3, 7] (fun v i => ∃ k : Nat, k ≤ s.size ∧ i = .int .i64 k ∧ v = .int .i64 (numL (s.data.toList.take k))) (fun _ i => s.size - (intOf i).toNat)
  case atStart => exact ⟨0, Nat.zero_le _, rfl, rfl⟩
  case round =>
    obtain ⟨k, hk, rfl, rfl⟩ := hrel
    have hb := num_lim (l := s.data.toList.take k) (k := 10) (take_dgt HA.out) (by rw [List.length_take]; omega) (by omega)
    by_cases hlt : k < s.size
    · have hd := dgt_iff.1 (dgt_at hlt HA.out)
      obtain ⟨hd1, hd2⟩ := hd
      have HS : Hid (numL (s.data.toList.take (k + 1)) = 10 * numL (s.data.toList.take k) + ((s[k].toNat : Int) - 48)) := by
        show _ = _
        rw [take_snoc s k hlt, numL_snoc]
      generalize numL (s.data.toList.take k) = N at *
      go_wp2
      go_round
      case rel => exact ⟨k + 1, by omega, by go_num, by rw [HS.out]⟩
      case measure => simp [intOf]; omega
    · obtain rfl : k = s.size := by omega
      go_wp2
      go_ret
      exact ⟨ret_int (by rw [take_all]), rfl⟩

/-- The reference's number: -1 where something is no digit. -/
def refNum (l : List UInt8) : Int := if l.all dgt then numL l else -1
set_option maxHeartbeats 1000000 in
theorem refNumber_any (s : ByteArray) (w : World) (hs : s.size ≤ 10) :
    Calls Tryd.prog 43 #[.string s] w fun e w' => e = .returned (.int .i64 (refNum s.data.toList)) ∧ w = w' := by
  go_enter Tryd.func43, Tryd.ntmps43
  go_wp2
  go_loop [3, 4] (fun v i => ∃ k : Nat, k ≤ s.size ∧ i = .int .i64 k ∧ Hid ((s.data.toList.take k).all dgt = true) ∧ v = .int .i64 (numL (s.data.toList.take k))) (fun _ i => s.size - (intOf i).toNat)
  case atStart => exact ⟨0, Nat.zero_le _, rfl, rfl, rfl⟩
  case round =>
    obtain ⟨k, hk, rfl, HA, rfl⟩ := hrel
    have hb := num_lim (l := s.data.toList.take k) (k := 10) HA.out (by rw [List.length_take]; omega) (by omega)
    by_cases hlt : k < s.size
    · cases hd : dgt s[k]
      · have HF : Hid (refNum s.data.toList = -1) := by show _ = _; unfold refNum; rw [all_not hlt hd]; rfl
        rcases dgt_no hd with h1 | ⟨h1, h2⟩
        all_goals
          clear hd
          go_wp2
          go_ret
          exact ⟨ret_int HF.out.symm, rfl⟩
      · have HS : Hid (numL (s.data.toList.take (k + 1)) = 10 * numL (s.data.toList.take k) + ((s[k].toNat : Int) - 48)) := by
          show _ = _
          rw [take_snoc s k hlt, numL_snoc]
        have HA2 : Hid ((s.data.toList.take (k + 1)).all dgt = true) := by show _ = _; rw [take_snoc s k hlt, List.all_append, HA.out]; simp [hd]
        obtain ⟨hd1, hd2⟩ := dgt_iff.1 hd
        clear hd
        generalize numL (s.data.toList.take k) = N at *
        go_wp2
        go_round
        case rel => exact ⟨k + 1, by omega, by go_num, HA2, by rw [HS.out]; go_num⟩
        case measure => simp [intOf]; omega
    · obtain rfl : k = s.size := by omega
      have HF : Hid (refNum s.data.toList = numL (s.data.toList.take s.size)) := by
        have := HA.out
        rw [take_all] at this
        show _ = _
        unfold refNum; rw [this, take_all]; rfl
      go_wp2
      go_ret
      exact ⟨ret_int HF.out.symm, rfl⟩

/-- The byte that stands at a place of a date's text. -/
def goodC (i : Nat) (c : UInt8) : Bool := if i = 4 ∨ i = 7 then decide (c.toNat = 45) else dgt c
/-- A text has the form of a date. -/
def dtd (l : List UInt8) : Bool := decide (l.length = 10) && (List.range 10).all fun i => goodC i (l.getD i 0)
theorem dtd_len {l : List UInt8} (h : ¬ l.length = 10) : dtd l = false := by simp [dtd, h]
theorem dtd_bad {l : List UInt8} {i : Nat} (h : i < 10) (h2 : goodC i (l.getD i 0) = false) : dtd l = false := by
  have : ((List.range 10).all fun i => goodC i (l.getD i 0)) = false := by
    rw [List.all_eq_false]
    exact ⟨i, by simpa using h, by simp only [h2]; decide⟩
  simp only [dtd, this, Bool.and_false]
theorem dtd_good {l : List UInt8} (h : l.length = 10) (h2 : ∀ i, i < 10 → goodC i (l.getD i 0) = true) : dtd l = true := by
  have : ((List.range 10).all fun i => goodC i (l.getD i 0)) = true := by
    rw [List.all_eq_true]
    exact fun x hx => h2 x (by simpa using hx)
  simp only [dtd, this, h, Bool.and_true]; decide
theorem getD_at (s : ByteArray) (i : Nat) (h : i < s.size) : s.data.toList.getD i 0 = s[i] := by
  rw [List.getD_eq_getElem?_getD, List.getElem?_eq_getElem (by simpa using h)]; rfl
theorem lt_step {p : Nat → Prop} {k : Nat} (h : ∀ i, i < k → p i) (hk : p k) : ∀ i, i < k + 1 → p i := fun i hi => by
  rcases Nat.lt_or_ge i k with h1 | h1
  · exact h i h1
  · obtain rfl : i = k := by omega
    exact hk

set_option maxHeartbeats 8000000 in
theorem isDated_any (s : ByteArray) (w : World) (hs : s.size ≤ maxLen) :
    Calls Tryd.prog 34 #[.string s] w fun e w' => e = .returned (.bool (dtd s.data.toList)) ∧ w = w' := by
  unfold maxLen at hs
  by_cases hl : s.size = 10
  · go_enter Tryd.func34, Tryd.ntmps34
    go_wp2
    go_loop [7] (fun i => ∃ k : Int, 0 ≤ k ∧ k ≤ 10 ∧ i = .int .i64 k ∧ Hid (∀ i, i < k.toNat → goodC i (s.data.toList.getD i 0) = true)) (fun i => (10 - intOf i).toNat)
    case atStart => exact ⟨0, by omega, by omega, rfl, fun i hi => absurd hi (Nat.not_lt_zero i)⟩
    case round =>
      obtain ⟨k, hk0, hk, rfl, HG⟩ := hrel
      have hkc : k = 10 ∨ k = 0 ∨ k = 1 ∨ k = 2 ∨ k = 3 ∨ k = 4 ∨ k = 5 ∨ k = 6 ∨ k = 7 ∨ k = 8 ∨ k = 9 := by omega
      rcases hkc with rfl | rfl | rfl | rfl | rfl | rfl | rfl | rfl | rfl | rfl | rfl
      · have HF : Hid (dtd s.data.toList = true) := dtd_good (by simpa using hl) HG.out
        go_wp2
        go_ret
        exact ⟨ret_bool HF.out.symm, rfl⟩
      · have hform : ((⟨#[48, 48, 48, 48, 45, 48, 48, 45, 48, 48]⟩ : ByteArray)[0].toNat : Int) = 48 := by decide
        cases hd : dgt s[0]
        · have HF : Hid (dtd s.data.toList = false) := dtd_bad (i := 0) (by decide) (by rw [getD_at s 0 (by omega)]; simpa [goodC] using hd)
          rcases dgt_no hd with h1 | ⟨h1, h2⟩
          all_goals
            clear hd
            go_wp2
            go_ret
            exact ⟨ret_bool HF.out.symm, rfl⟩
        · have HG2 : Hid (∀ i, i < 1 → goodC i (s.data.toList.getD i 0) = true) := lt_step HG.out (by rw [getD_at s 0 (by omega)]; simpa [goodC] using hd)
          obtain ⟨h1, h2⟩ := dgt_iff.1 hd
          clear hd
          go_wp2
          go_round
          case rel => exact ⟨1, by omega, by omega, rfl, HG2⟩
          case measure => simp [intOf]
      · have hform : ((⟨#[48, 48, 48, 48, 45, 48, 48, 45, 48, 48]⟩ : ByteArray)[1].toNat : Int) = 48 := by decide
        cases hd : dgt s[1]
        · have HF : Hid (dtd s.data.toList = false) := dtd_bad (i := 1) (by decide) (by rw [getD_at s 1 (by omega)]; simpa [goodC] using hd)
          rcases dgt_no hd with h1 | ⟨h1, h2⟩
          all_goals
            clear hd
            go_wp2
            go_ret
            exact ⟨ret_bool HF.out.symm, rfl⟩
        · have HG2 : Hid (∀ i, i < 2 → goodC i (s.data.toList.getD i 0) = true) := lt_step HG.out (by rw [getD_at s 1 (by omega)]; simpa [goodC] using hd)
          obtain ⟨h1, h2⟩ := dgt_iff.1 hd
          clear hd
          go_wp2
          go_round
          case rel => exact ⟨2, by omega, by omega, rfl, HG2⟩
          case measure => simp [intOf]
      · have hform : ((⟨#[48, 48, 48, 48, 45, 48, 48, 45, 48, 48]⟩ : ByteArray)[2].toNat : Int) = 48 := by decide
        cases hd : dgt s[2]
        · have HF : Hid (dtd s.data.toList = false) := dtd_bad (i := 2) (by decide) (by rw [getD_at s 2 (by omega)]; simpa [goodC] using hd)
          rcases dgt_no hd with h1 | ⟨h1, h2⟩
          all_goals
            clear hd
            go_wp2
            go_ret
            exact ⟨ret_bool HF.out.symm, rfl⟩
        · have HG2 : Hid (∀ i, i < 3 → goodC i (s.data.toList.getD i 0) = true) := lt_step HG.out (by rw [getD_at s 2 (by omega)]; simpa [goodC] using hd)
          obtain ⟨h1, h2⟩ := dgt_iff.1 hd
          clear hd
          go_wp2
          go_round
          case rel => exact ⟨3, by omega, by omega, rfl, HG2⟩
          case measure => simp [intOf]
      · have hform : ((⟨#[48, 48, 48, 48, 45, 48, 48, 45, 48, 48]⟩ : ByteArray)[3].toNat : Int) = 48 := by decide
        cases hd : dgt s[3]
        · have HF : Hid (dtd s.data.toList = false) := dtd_bad (i := 3) (by decide) (by rw [getD_at s 3 (by omega)]; simpa [goodC] using hd)
          rcases dgt_no hd with h1 | ⟨h1, h2⟩
          all_goals
            clear hd
            go_wp2
            go_ret
            exact ⟨ret_bool HF.out.symm, rfl⟩
        · have HG2 : Hid (∀ i, i < 4 → goodC i (s.data.toList.getD i 0) = true) := lt_step HG.out (by rw [getD_at s 3 (by omega)]; simpa [goodC] using hd)
          obtain ⟨h1, h2⟩ := dgt_iff.1 hd
          clear hd
          go_wp2
          go_round
          case rel => exact ⟨4, by omega, by omega, rfl, HG2⟩
          case measure => simp [intOf]
      · have hform : ((⟨#[48, 48, 48, 48, 45, 48, 48, 45, 48, 48]⟩ : ByteArray)[4].toNat : Int) = 45 := by decide
        by_cases hd : s[4].toNat = 45
        · have HG2 : Hid (∀ i, i < 5 → goodC i (s.data.toList.getD i 0) = true) := lt_step HG.out (by rw [getD_at s 4 (by omega)]; simp [goodC, hd])
          have hd1 : ((s[4].toNat : Int) == 45) = true := by rw [hd]; decide
          have hd2 : ((s[4].toNat : Int) != 45) = false := by rw [hd]; decide
          clear hd
          go_wp2
          go_round
          case rel => exact ⟨5, by omega, by omega, rfl, HG2⟩
          case measure => simp [intOf]
        · have HF : Hid (dtd s.data.toList = false) := dtd_bad (i := 4) (by decide) (by rw [getD_at s 4 (by omega)]; simp [goodC, hd])
          have hd0 : ¬ (s[4].toNat : Int) = 45 := by omega
          have hd1 : ((s[4].toNat : Int) == 45) = false := by simpa using hd0
          have hd2 : ((s[4].toNat : Int) != 45) = true := by simpa using hd0
          clear hd hd0
          go_wp2
          go_ret
          exact ⟨ret_bool HF.out.symm, rfl⟩
      · have hform : ((⟨#[48, 48, 48, 48, 45, 48, 48, 45, 48, 48]⟩ : ByteArray)[5].toNat : Int) = 48 := by decide
        cases hd : dgt s[5]
        · have HF : Hid (dtd s.data.toList = false) := dtd_bad (i := 5) (by decide) (by rw [getD_at s 5 (by omega)]; simpa [goodC] using hd)
          rcases dgt_no hd with h1 | ⟨h1, h2⟩
          all_goals
            clear hd
            go_wp2
            go_ret
            exact ⟨ret_bool HF.out.symm, rfl⟩
        · have HG2 : Hid (∀ i, i < 6 → goodC i (s.data.toList.getD i 0) = true) := lt_step HG.out (by rw [getD_at s 5 (by omega)]; simpa [goodC] using hd)
          obtain ⟨h1, h2⟩ := dgt_iff.1 hd
          clear hd
          go_wp2
          go_round
          case rel => exact ⟨6, by omega, by omega, rfl, HG2⟩
          case measure => simp [intOf]
      · have hform : ((⟨#[48, 48, 48, 48, 45, 48, 48, 45, 48, 48]⟩ : ByteArray)[6].toNat : Int) = 48 := by decide
        cases hd : dgt s[6]
        · have HF : Hid (dtd s.data.toList = false) := dtd_bad (i := 6) (by decide) (by rw [getD_at s 6 (by omega)]; simpa [goodC] using hd)
          rcases dgt_no hd with h1 | ⟨h1, h2⟩
          all_goals
            clear hd
            go_wp2
            go_ret
            exact ⟨ret_bool HF.out.symm, rfl⟩
        · have HG2 : Hid (∀ i, i < 7 → goodC i (s.data.toList.getD i 0) = true) := lt_step HG.out (by rw [getD_at s 6 (by omega)]; simpa [goodC] using hd)
          obtain ⟨h1, h2⟩ := dgt_iff.1 hd
          clear hd
          go_wp2
          go_round
          case rel => exact ⟨7, by omega, by omega, rfl, HG2⟩
          case measure => simp [intOf]
      · have hform : ((⟨#[48, 48, 48, 48, 45, 48, 48, 45, 48, 48]⟩ : ByteArray)[7].toNat : Int) = 45 := by decide
        by_cases hd : s[7].toNat = 45
        · have HG2 : Hid (∀ i, i < 8 → goodC i (s.data.toList.getD i 0) = true) := lt_step HG.out (by rw [getD_at s 7 (by omega)]; simp [goodC, hd])
          have hd1 : ((s[7].toNat : Int) == 45) = true := by rw [hd]; decide
          have hd2 : ((s[7].toNat : Int) != 45) = false := by rw [hd]; decide
          clear hd
          go_wp2
          go_round
          case rel => exact ⟨8, by omega, by omega, rfl, HG2⟩
          case measure => simp [intOf]
        · have HF : Hid (dtd s.data.toList = false) := dtd_bad (i := 7) (by decide) (by rw [getD_at s 7 (by omega)]; simp [goodC, hd])
          have hd0 : ¬ (s[7].toNat : Int) = 45 := by omega
          have hd1 : ((s[7].toNat : Int) == 45) = false := by simpa using hd0
          have hd2 : ((s[7].toNat : Int) != 45) = true := by simpa using hd0
          clear hd hd0
          go_wp2
          go_ret
          exact ⟨ret_bool HF.out.symm, rfl⟩
      · have hform : ((⟨#[48, 48, 48, 48, 45, 48, 48, 45, 48, 48]⟩ : ByteArray)[8].toNat : Int) = 48 := by decide
        cases hd : dgt s[8]
        · have HF : Hid (dtd s.data.toList = false) := dtd_bad (i := 8) (by decide) (by rw [getD_at s 8 (by omega)]; simpa [goodC] using hd)
          rcases dgt_no hd with h1 | ⟨h1, h2⟩
          all_goals
            clear hd
            go_wp2
            go_ret
            exact ⟨ret_bool HF.out.symm, rfl⟩
        · have HG2 : Hid (∀ i, i < 9 → goodC i (s.data.toList.getD i 0) = true) := lt_step HG.out (by rw [getD_at s 8 (by omega)]; simpa [goodC] using hd)
          obtain ⟨h1, h2⟩ := dgt_iff.1 hd
          clear hd
          go_wp2
          go_round
          case rel => exact ⟨9, by omega, by omega, rfl, HG2⟩
          case measure => simp [intOf]
      · have hform : ((⟨#[48, 48, 48, 48, 45, 48, 48, 45, 48, 48]⟩ : ByteArray)[9].toNat : Int) = 48 := by decide
        cases hd : dgt s[9]
        · have HF : Hid (dtd s.data.toList = false) := dtd_bad (i := 9) (by decide) (by rw [getD_at s 9 (by omega)]; simpa [goodC] using hd)
          rcases dgt_no hd with h1 | ⟨h1, h2⟩
          all_goals
            clear hd
            go_wp2
            go_ret
            exact ⟨ret_bool HF.out.symm, rfl⟩
        · have HG2 : Hid (∀ i, i < 10 → goodC i (s.data.toList.getD i 0) = true) := lt_step HG.out (by rw [getD_at s 9 (by omega)]; simpa [goodC] using hd)
          obtain ⟨h1, h2⟩ := dgt_iff.1 hd
          clear hd
          go_wp2
          go_round
          case rel => exact ⟨10, by omega, by omega, rfl, HG2⟩
          case measure => simp [intOf]
  · have HF : Hid (dtd s.data.toList = false) := dtd_len (by simpa using hl)
    have hl' : ¬ (s.size : Int) = 10 := by omega
    go_enter Tryd.func34, Tryd.ntmps34
    go_wp2
    go_ret
    exact ⟨ret_bool HF.out.symm, rfl⟩
end Go.Proofs.YtigohhliblgdhaaDoor
