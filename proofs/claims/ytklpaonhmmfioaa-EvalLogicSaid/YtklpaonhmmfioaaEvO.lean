/- Walks: cmp.Compare of integers and texts; operate. -/
import Derived.Test.YtklpaonhmmfioaaEvV
namespace Go.Proofs.Ytklpaonhmmfioaa.Ck
open Go Go.Lib Go.RowKit Go.Proofs.Ytklpaonhmmfioaa

theorem nanI_any (x : Int) (w : World) : Calls Try.prog 64 #[.int .i64 x] w fun e w' => e = .returned (.bool false) ∧ w' = w := by
  go_enter Try.func64, Try.ntmps64
  go_wp2
  go_ret
  exact ⟨ret_bool (by simp), rfl⟩
theorem nanS_any (s : ByteArray) (w : World) : Calls Try.prog 63 #[.string s] w fun e w' => e = .returned (.bool false) ∧ w' = w := by
  go_enter Try.func63, Try.ntmps63
  go_wp2
  go_ret
  exact ⟨ret_bool (by simp), rfl⟩
theorem cmpI_is {a b o : Int} (h : cmpI a b = o) (w : World) : Calls Try.prog 56 #[.int .i64 a, .int .i64 b] w fun e w' => e = .returned (.int .i64 o) ∧ w' = w := by
  subst h
  have HN := Lib.hid (fun x W => nanI_any x W)
  cases h1 : decide (a < b)
  · cases h2 : decide (b < a)
    · have HR : Hid (cmpI a b = 0) := Lib.hid (by unfold cmpI; rw [if_neg (of_decide_eq_false h1), if_neg (of_decide_eq_false h2)])
      go_enter Try.func56, Try.ntmps56
      go_wp2_with (go_at_call 64; (with_reducible refine (HN.out _ _).mono ?_); rintro e w1 ⟨rfl, rfl⟩)
      go_ret
      exact ⟨ret_i HR.out.symm, rfl⟩
    · have HR : Hid (cmpI a b = 1) := Lib.hid (by unfold cmpI; rw [if_neg (of_decide_eq_false h1), if_pos (of_decide_eq_true h2)])
      go_enter Try.func56, Try.ntmps56
      go_wp2_with (go_at_call 64; (with_reducible refine (HN.out _ _).mono ?_); rintro e w1 ⟨rfl, rfl⟩)
      go_ret
      exact ⟨ret_i HR.out.symm, rfl⟩
  · have HR : Hid (cmpI a b = -1) := Lib.hid (by unfold cmpI; rw [if_pos (of_decide_eq_true h1)])
    go_enter Try.func56, Try.ntmps56
    go_wp2_with (go_at_call 64; (with_reducible refine (HN.out _ _).mono ?_); rintro e w1 ⟨rfl, rfl⟩)
    go_ret
    exact ⟨ret_i HR.out.symm, rfl⟩
theorem less_self : ∀ l : List UInt8, Op.bytesLess l l = false
  | [] => rfl
  | c :: l => by simp [Op.bytesLess, less_self l, UInt8.lt_irrefl]
/-- The order of two texts. -/
def cmpB (s t : ByteArray) : Int := if Op.bytesLess s.toList t.toList = true then -1 else if s.toList = t.toList then 0 else 1
theorem cmpB_zero (s t : ByteArray) : (cmpB s t = 0) = (cmpT s t = 0) := by
  apply propext
  unfold cmpB cmpT
  by_cases h : s.toList = t.toList
  · rw [if_pos h, h, less_self]; simp
  · rw [if_neg h]; split <;> simp
theorem cmpB_is {s t : ByteArray} {o : Int} (h : cmpB s t = o) (w : World) : Calls Try.prog 55 #[.string s, .string t] w fun e w' => e = .returned (.int .i64 o) ∧ w' = w := by
  subst h
  have HN := Lib.hid (fun x W => nanS_any x W)
  cases h1 : Op.bytesLess s.toList t.toList
  · cases h2 : (s.toList == t.toList)
    · have HR : Hid (cmpB s t = 1) := Lib.hid (by unfold cmpB; rw [if_neg (by simp [h1]), if_neg (by simpa using h2)])
      go_enter Try.func55, Try.ntmps55
      go_wp2_with (go_at_call 63; (with_reducible refine (HN.out _ _).mono ?_); rintro e w1 ⟨rfl, rfl⟩)
      go_ret
      exact ⟨ret_i HR.out.symm, rfl⟩
    · have HR : Hid (cmpB s t = 0) := Lib.hid (by unfold cmpB; rw [if_neg (by simp [h1]), if_pos (by simpa using h2)])
      go_enter Try.func55, Try.ntmps55
      go_wp2_with (go_at_call 63; (with_reducible refine (HN.out _ _).mono ?_); rintro e w1 ⟨rfl, rfl⟩)
      go_ret
      exact ⟨ret_i HR.out.symm, rfl⟩
  · have HR : Hid (cmpB s t = -1) := Lib.hid (by unfold cmpB; rw [if_pos h1])
    go_enter Try.func55, Try.ntmps55
    go_wp2_with (go_at_call 63; (with_reducible refine (HN.out _ _).mono ?_); rintro e w1 ⟨rfl, rfl⟩)
    go_ret
    exact ⟨ret_i HR.out.symm, rfl⟩
/-- Whether a product is too large. -/
theorem mul_abs (a b : Int) : a * b = max a (-a) * max b (-b) ∨ a * b = -(max a (-a) * max b (-b)) := by
  have h1 : max a (-a) = a ∨ max a (-a) = -a := by omega
  have h2 : max b (-b) = b ∨ max b (-b) = -b := by omega
  rcases h1 with h1 | h1 <;> rcases h2 with h2 | h2 <;> rw [h1, h2] <;> simp [Int.neg_mul, Int.mul_neg]
theorem mul_big {a b : Int} (ha : a ≠ 0) (h : (4611686018427387904 : Int).tdiv (max a (-a)) < max b (-b)) : nb (a * b) = none := by
  have h1 : 0 < max a (-a) := by omega
  rw [Int.tdiv_eq_ediv_of_nonneg (by decide)] at h
  have h2 : 4611686018427387904 < max b (-b) * max a (-a) := (Int.ediv_lt_iff_lt_mul h1).1 h
  rw [Int.mul_comm] at h2
  have h3 := mul_abs a b
  generalize max a (-a) * max b (-b) = z at h2 h3
  unfold nb
  rw [if_neg (by omega)]
theorem mul_fit {a b : Int} (h : a = 0 ∨ ¬ (4611686018427387904 : Int).tdiv (max a (-a)) < max b (-b)) : nb (a * b) = some (a * b) ∧ -4611686018427387904 ≤ a * b ∧ a * b ≤ 4611686018427387904 := by
  by_cases ha : a = 0
  · subst ha
    rw [Int.zero_mul]
    exact ⟨rfl, by decide, by decide⟩
  · have h := h.resolve_left ha
    have h1 : 0 < max a (-a) := by omega
    rw [Int.tdiv_eq_ediv_of_nonneg (by decide)] at h
    have h2 : ¬ 4611686018427387904 < max b (-b) * max a (-a) := fun g => h ((Int.ediv_lt_iff_lt_mul h1).2 g)
    rw [Int.mul_comm] at h2
    have h3 := mul_abs a b
    have h4 : 0 ≤ max a (-a) * max b (-b) := Int.mul_nonneg (by omega) (by omega)
    generalize max a (-a) * max b (-b) = z at h2 h3 h4
    unfold nb
    have : -4611686018427387904 ≤ a * b ∧ a * b ≤ 4611686018427387904 := by omega
    rw [if_pos this]
    exact ⟨rfl, this⟩
theorem opN_add (a b : Int) : opN 11 a b = nb (a + b) := by rw [opN, if_pos rfl]
theorem opN_sub (a b : Int) : opN 12 a b = nb (a + -b) := by rw [opN, if_neg (by decide), if_pos rfl, Int.sub_eq_add_neg]
theorem opN_mul (a b : Int) : opN 13 a b = nb (a * b) := by rw [opN, if_neg (by decide), if_neg (by decide), if_pos rfl]
theorem opN_zero {op : Int} (h : op = 14 ∨ op = 15) (a : Int) : opN op a 0 = none := by rcases h with rfl | rfl <;> rfl
theorem opN_div {a b : Int} (h : b ≠ 0) : opN 14 a b = some (a.tdiv b) := by rw [opN, if_neg (by decide), if_neg (by decide), if_neg (by decide), if_neg h, if_pos rfl]
theorem opN_mod {a b : Int} (h : b ≠ 0) : opN 15 a b = some (a.tmod b) := by rw [opN, if_neg (by decide), if_neg (by decide), if_neg (by decide), if_neg h, if_neg (by decide)]
/-- Adding what may wrap around: it is no number all the same. -/
theorem nb_wrap {n : Int} (h : -9223372036854775808 ≤ n) (h2 : n ≤ 9223372036854775808) : nb (wrap64 n) = nb n := by
  by_cases h3 : n = 9223372036854775808
  · subst h3; decide +kernel
  · have : wrap64 n = n := by unfold wrap64; omega
    rw [this]
set_option maxRecDepth 100000 in
set_option maxHeartbeats 8000000 in
theorem operate_is {op a b m : Int} {h : Bool} (ho : OV (opN op a b) m h) (hop : op = 11 ∨ op = 12 ∨ op = 13 ∨ op = 14 ∨ op = 15) (ha : -4611686018427387904 ≤ a ∧ a ≤ 4611686018427387904) (hb : -4611686018427387904 ≤ b ∧ b ≤ 4611686018427387904) (w : World) :
    Calls Try.prog 36 #[.int .i64 op, .int .i64 a, .int .i64 b] w fun e w' => e = .returned (.tuple #[.int .i64 m, .bool h]) ∧ w' = w := by
  obtain ⟨ha0, ha1⟩ := ha
  obtain ⟨hb0, hb1⟩ := hb
  rcases hop with rfl | rfl | rfl | rfl | rfl
  · rw [opN_add, ← nb_wrap (by omega) (by omega)] at ho
    have HW := Lib.hid (fun W => evWithin_is ho W)
    clear ho
    go_enter Try.func36, Try.ntmps36
    go_wp2_with (go_at_call 33; (with_reducible refine (HW.out _).mono ?_); rintro e w1 ⟨rfl, rfl⟩)
    go_ret2
    exact ⟨rfl, rfl⟩
  · rw [opN_sub, ← nb_wrap (by omega) (by omega)] at ho
    have HW := Lib.hid (fun W => evWithin_is ho W)
    clear ho
    go_enter Try.func36, Try.ntmps36
    go_wp2_with (go_at_call 33; (with_reducible refine (HW.out _).mono ?_); rintro e w1 ⟨rfl, rfl⟩)
    go_ret2
    exact ⟨rfl, rfl⟩
  · rw [opN_mul] at ho
    by_cases h0 : a = 0
    · subst h0
      rw [Int.zero_mul] at ho
      have HO : Hid (m = 0 ∧ h = true) := Lib.hid ⟨ho.1, ho.2⟩
      obtain ⟨rfl, rfl⟩ := HO.out
      clear ho HO
      go_enter Try.func36, Try.ntmps36
      go_wp2_with fail
      go_ret2
      exact ⟨by simp, rfl⟩
    · have d0 : (a != 0) = true := by simpa using h0
      have hs : (0 < a ∧ 0 ≤ b) ∨ (0 < a ∧ b < 0) ∨ (a < 0 ∧ 0 ≤ b) ∨ (a < 0 ∧ b < 0) := by omega
      rcases hs with ⟨sa, sb⟩ | ⟨sa, sb⟩ | ⟨sa, sb⟩ | ⟨sa, sb⟩
      · have hq : ((4611686018427387904 : Int).tdiv (max a (-a)) < max b (-b)) = (4611686018427387904 / a < b) := by
          rw [show max a (-a) = a by omega, show max b (-b) = b by omega]
          rw [Int.tdiv_eq_ediv_of_nonneg (by decide)]
          try (apply propext; omega)
        by_cases hv : (4611686018427387904 : Int).tdiv (max a (-a)) < max b (-b)
        · rw [mul_big h0 hv] at ho
          obtain ⟨rfl, rfl⟩ : m = 0 ∧ h = false := ⟨ho.1, ho.2⟩
          rw [hq] at hv
          have dv := decide_eq_true hv
          clear ho hq
          go_enter Try.func36, Try.ntmps36
          go_wp2_with fail
          go_ret2
          exact ⟨rfl, rfl⟩
        · obtain ⟨hf, hl, hu⟩ := mul_fit (a := a) (b := b) (.inr hv)
          rw [hf] at ho
          obtain ⟨rfl, rfl⟩ : m = wrap64 (a * b) ∧ h = true := ⟨by rw [IntWalk.wrap64_in _ ⟨by omega, by omega⟩]; exact ho.1, ho.2⟩
          rw [hq] at hv
          have dv := decide_eq_false hv
          clear ho hf hq
          go_enter Try.func36, Try.ntmps36
          go_wp2_with fail
          go_ret2
          exact ⟨by first | rfl | (rw [IntWalk.wrap64_in _ ⟨by omega, by omega⟩]; rfl), rfl⟩
      · have hq : ((4611686018427387904 : Int).tdiv (max a (-a)) < max b (-b)) = (4611686018427387904 / a < -b) := by
          rw [show max a (-a) = a by omega, show max b (-b) = -b by omega]
          rw [Int.tdiv_eq_ediv_of_nonneg (by decide)]
          try (apply propext; omega)
        by_cases hv : (4611686018427387904 : Int).tdiv (max a (-a)) < max b (-b)
        · rw [mul_big h0 hv] at ho
          obtain ⟨rfl, rfl⟩ : m = 0 ∧ h = false := ⟨ho.1, ho.2⟩
          rw [hq] at hv
          have dv := decide_eq_true hv
          clear ho hq
          go_enter Try.func36, Try.ntmps36
          go_wp2_with fail
          go_ret2
          exact ⟨rfl, rfl⟩
        · obtain ⟨hf, hl, hu⟩ := mul_fit (a := a) (b := b) (.inr hv)
          rw [hf] at ho
          obtain ⟨rfl, rfl⟩ : m = wrap64 (a * b) ∧ h = true := ⟨by rw [IntWalk.wrap64_in _ ⟨by omega, by omega⟩]; exact ho.1, ho.2⟩
          rw [hq] at hv
          have dv := decide_eq_false hv
          clear ho hf hq
          go_enter Try.func36, Try.ntmps36
          go_wp2_with fail
          go_ret2
          exact ⟨by first | rfl | (rw [IntWalk.wrap64_in _ ⟨by omega, by omega⟩]; rfl), rfl⟩
      · have hq : ((4611686018427387904 : Int).tdiv (max a (-a)) < max b (-b)) = (-(4611686018427387904 : Int).tdiv a < b) := by
          rw [show max a (-a) = -a by omega, show max b (-b) = b by omega, Int.tdiv_neg]
          try (apply propext; omega)
        have hqa := tdiv_abs 4611686018427387904 a
        have hq1 : -4611686018427387904 ≤ (4611686018427387904 : Int).tdiv a := by omega
        have hq2 : (4611686018427387904 : Int).tdiv a ≤ 4611686018427387904 := by omega
        clear hqa
        by_cases hv : (4611686018427387904 : Int).tdiv (max a (-a)) < max b (-b)
        · rw [mul_big h0 hv] at ho
          obtain ⟨rfl, rfl⟩ : m = 0 ∧ h = false := ⟨ho.1, ho.2⟩
          rw [hq] at hv
          have dv := decide_eq_true hv
          clear ho hq
          go_enter Try.func36, Try.ntmps36
          go_wp2_with fail
          go_ret2
          exact ⟨rfl, rfl⟩
        · obtain ⟨hf, hl, hu⟩ := mul_fit (a := a) (b := b) (.inr hv)
          rw [hf] at ho
          obtain ⟨rfl, rfl⟩ : m = wrap64 (a * b) ∧ h = true := ⟨by rw [IntWalk.wrap64_in _ ⟨by omega, by omega⟩]; exact ho.1, ho.2⟩
          rw [hq] at hv
          have dv := decide_eq_false hv
          clear ho hf hq
          go_enter Try.func36, Try.ntmps36
          go_wp2_with fail
          go_ret2
          exact ⟨by first | rfl | (rw [IntWalk.wrap64_in _ ⟨by omega, by omega⟩]; rfl), rfl⟩
      · have hq : ((4611686018427387904 : Int).tdiv (max a (-a)) < max b (-b)) = (b < (4611686018427387904 : Int).tdiv a) := by
          rw [show max a (-a) = -a by omega, show max b (-b) = -b by omega, Int.tdiv_neg]
          try (apply propext; omega)
        have hqa := tdiv_abs 4611686018427387904 a
        have hq1 : -4611686018427387904 ≤ (4611686018427387904 : Int).tdiv a := by omega
        have hq2 : (4611686018427387904 : Int).tdiv a ≤ 4611686018427387904 := by omega
        clear hqa
        by_cases hv : (4611686018427387904 : Int).tdiv (max a (-a)) < max b (-b)
        · rw [mul_big h0 hv] at ho
          obtain ⟨rfl, rfl⟩ : m = 0 ∧ h = false := ⟨ho.1, ho.2⟩
          rw [hq] at hv
          have dv := decide_eq_true hv
          clear ho hq
          go_enter Try.func36, Try.ntmps36
          go_wp2_with fail
          go_ret2
          exact ⟨rfl, rfl⟩
        · obtain ⟨hf, hl, hu⟩ := mul_fit (a := a) (b := b) (.inr hv)
          rw [hf] at ho
          obtain ⟨rfl, rfl⟩ : m = wrap64 (a * b) ∧ h = true := ⟨by rw [IntWalk.wrap64_in _ ⟨by omega, by omega⟩]; exact ho.1, ho.2⟩
          rw [hq] at hv
          have dv := decide_eq_false hv
          clear ho hf hq
          go_enter Try.func36, Try.ntmps36
          go_wp2_with fail
          go_ret2
          exact ⟨by first | rfl | (rw [IntWalk.wrap64_in _ ⟨by omega, by omega⟩]; rfl), rfl⟩
  all_goals
    by_cases h0 : b = 0
    · subst h0
      rw [opN_zero (by decide)] at ho
      obtain ⟨rfl, rfl⟩ : m = 0 ∧ h = false := ⟨ho.1, ho.2⟩
      clear ho
      go_enter Try.func36, Try.ntmps36
      go_wp2_with fail
      go_ret2
      exact ⟨rfl, rfl⟩
    · have d0 : (b == 0) = false := by simpa using h0
      first | rw [opN_div h0] at ho | rw [opN_mod h0] at ho
      obtain ⟨rfl, rfl⟩ : m = _ ∧ h = true := ⟨ho.1, ho.2⟩
      have hd := tdiv_abs a b
      have hd1 : -4611686018427387904 ≤ a.tdiv b ∧ a.tdiv b ≤ 4611686018427387904 := by omega
      obtain ⟨hd2, hd3⟩ := hd1
      clear ho hd
      go_enter Try.func36, Try.ntmps36
      go_wp2_with fail
      go_ret2
      exact ⟨rfl, rfl⟩
end Go.Proofs.Ytklpaonhmmfioaa.Ck
