/- Walks: a product, rounded, in the program and in the reference. -/
import Derived.Test.YtchpfghbigaijacDoorRefDiv
import Derived.Test.YtchpfghbigaijacDoorAmtMag
namespace Go.Proofs.YtchpfghbigaijacDoor
open Go.RowKit

def scaleQ (m n d : Nat) : Nat := m * n / d + (if d ≤ 2 * (m * n % d) then 1 else 0)
def scaleV (a : Int) (m n d : Nat) : Int := if scaleQ m n d ≤ 1125899906842624 then (if a < 0 then -(scaleQ m n d : Int) else (scaleQ m n d : Int)) else 0
def scaleE (m n d : Nat) : Int := if scaleQ m n d ≤ 1125899906842624 then 0 else 6

theorem scale_over {a : Int} {m n d : Nat} (h : 1125899906842624 < m * n / d) : scaleV a m n d = 0 ∧ scaleE m n d = 6 := by
  have : ¬ scaleQ m n d ≤ 1125899906842624 := by unfold scaleQ; omega
  simp [scaleV, scaleE, this]
theorem scale_of {a : Int} {m n d Q : Nat} (h : scaleQ m n d = Q) (h2 : Q ≤ 1125899906842624) : scaleV a m n d = (if a < 0 then -(Q : Int) else (Q : Int)) ∧ scaleE m n d = 0 := by
  simp [scaleV, scaleE, h, h2]
theorem scale_out {a : Int} {m n d Q : Nat} (h : scaleQ m n d = Q) (h2 : 1125899906842624 < Q) : scaleV a m n d = 0 ∧ scaleE m n d = 6 := by
  have : ¬ scaleQ m n d ≤ 1125899906842624 := by omega
  simp [scaleV, scaleE, this]
theorem scaleQ_up {m n d : Nat} (h : d ≤ 2 * (m * n % d)) : scaleQ m n d = m * n / d + 1 := by simp [scaleQ, h]
theorem scaleQ_down {m n d : Nat} (h : ¬ d ≤ 2 * (m * n % d)) : scaleQ m n d = m * n / d := by simp [scaleQ, h]

theorem ret_two {a b c d : Int} (h : a = b) (h2 : c = d) : Ending.returned (.tuple #[.int .i64 a, .int .i64 c]) = .returned (.tuple #[.int .i64 b, .int .i64 d]) := by rw [h, h2]

theorem hi_over {p d : Nat} (hd : 0 < d) (h : d ≤ p / 18446744073709551616) : 1125899906842624 < p / d := by
  have h2 := (Nat.le_div_iff_mul_le (show 0 < 18446744073709551616 by decide)).1 h
  have : 1125899906842625 ≤ p / d := by
    rw [Nat.le_div_iff_mul_le hd]; omega
  omega

set_option maxHeartbeats 4000000 in
set_option maxRecDepth 100000 in
theorem scale_good (a : Int) (m n d : Nat) (hm : mag a = (m : Int)) (ha : okA a = true) (hn : n ≤ 1099511627776) (hd : 0 < d) (hd2 : d ≤ 1099511627776) (w : World) :
    Calls Tryd.prog 20 #[.int .i64 a, .int .i64 (n : Int), .int .i64 (d : Int)] w fun e w' => e = .returned (.tuple #[.int .i64 (scaleV a m n d), .int .i64 (scaleE m n d)]) ∧ ∃ k, w' = w.drewN k := by
  have hab : -1125899906842624 ≤ a ∧ a ≤ 1125899906842624 := by simpa [okA] using ha
  have h1 : okU (n : Int) = true := by simp [okU]; omega
  have h2 : okU (d : Int) = true := by simp [okU]; omega
  have hb0 : ((d : Int) == 0) = false := by simp; omega
  have hm2 : m ≤ 1125899906842624 := by unfold mag at hm; split at hm <;> omega
  have hM := fun wx => (Tryd.bits_Mul64 m n (by omega) (by omega) wx)
  have hlo : m * n % 18446744073709551616 < 18446744073709551616 := Nat.mod_lt _ (by decide)
  have hp := Nat.div_add_mod' (m * n) 18446744073709551616
  have hrest : m * n % d < d := Nat.mod_lt _ hd
  obtain ⟨hi, hhi⟩ : ∃ hi, m * n / 18446744073709551616 = hi := ⟨_, rfl⟩
  obtain ⟨lo, hloe⟩ : ∃ lo, m * n % 18446744073709551616 = lo := ⟨_, rfl⟩
  rw [hhi, hloe] at hp
  rw [hloe] at hlo
  have HM : Hid (∀ wx, Calls Tryd.prog 30 #[.int .u64 (m : Int), .int .u64 (n : Int)] wx fun e w' => e = .returned (.tuple #[.int .u64 (hi : Int), .int .u64 (lo : Int)]) ∧ wx = w') :=
    Lib.hid fun wx => (hM wx).mono fun e w' ⟨he, hw⟩ => ⟨by rw [he, hhi, hloe], hw.symm⟩
  clear hM
  have HH := Lib.hid hhi; clear hhi hloe
  by_cases hc : d ≤ hi
  · have hc1 : (d : Int) ≤ (hi : Int) := by omega
    have HF := Lib.hid (scale_over (a := a) (hi_over hd (HH.out.symm ▸ hc)))
    clear hp hrest
    go_enter Tryd.func20, Tryd.ntmps20
    go_wp2_with (first
      | (go_at_call 32; refine (valid_any _ _).mono ?_; rintro e w1 ⟨rfl, rfl⟩)
      | (go_at_call 33; refine (validUnits_any _ _).mono ?_; rintro e w1 ⟨rfl, rfl⟩)
      | (go_at_call 29; refine (magnitude_any _ _ (by omega) (by omega)).mono ?_; rintro e w1 ⟨rfl, rfl⟩; rw [hm])
      | (go_at_call 30; refine (HM.out _).mono ?_; rintro e w1 ⟨rfl, rfl⟩))
    go_ret2
    exact ⟨ret_two HF.out.1.symm HF.out.2.symm, 0, rfl⟩
  · have hc1 : ¬ (d : Int) ≤ (hi : Int) := by omega
    have hD := fun wx => div64 hi lo d (by omega) (by omega) (by omega) wx
    have hqb : m * n / d < 18446744073709551616 := by rw [Nat.div_lt_iff_lt_mul hd]; omega
    rw [hp] at hD
    obtain ⟨q, hq⟩ : ∃ q, m * n / d = q := ⟨_, rfl⟩
    obtain ⟨r, hr⟩ : ∃ r, m * n % d = r := ⟨_, rfl⟩
    rw [hq, hr] at hD
    rw [hr] at hrest
    rw [hq] at hqb
    have HD := Lib.hid hD; clear hD
    have HQ := Lib.hid (And.intro hq hr); clear hq hr hp
    by_cases h50 : q ≤ 1125899906842624
    · have h50' : ¬ (1125899906842624 : Int) < (q : Int) := by omega
      by_cases hup : d ≤ 2 * r
      · have hup' : (d : Int) ≤ 2 * (r : Int) := by omega
        have hQ : scaleQ m n d = q + 1 := by rw [scaleQ_up (by rw [HQ.out.2]; exact hup), HQ.out.1]
        by_cases h51 : q + 1 ≤ 1125899906842624
        · obtain ⟨q1, hq1⟩ : ∃ q1, q + 1 = q1 := ⟨_, rfl⟩
          have h51' : ¬ (1125899906842624 : Int) < (q1 : Int) := by omega
          have eq1 : (q : Int) + 1 = (q1 : Int) := by omega
          rw [hq1] at hQ h51
          by_cases han : a < 0
          · have HF : Hid (scaleV a m n d = -(q1 : Int) ∧ scaleE m n d = 0) := Lib.hid (by have := scale_of (a := a) hQ h51; rw [if_pos han] at this; exact this)
            clear hup h51 h50 hQ hq1
            go_enter Tryd.func20, Tryd.ntmps20
            go_wp2_with (first
              | (go_at_call 32; refine (valid_any _ _).mono ?_; rintro e w1 ⟨rfl, rfl⟩)
              | (go_at_call 33; refine (validUnits_any _ _).mono ?_; rintro e w1 ⟨rfl, rfl⟩)
              | (go_at_call 29; refine (magnitude_any _ _ (by omega) (by omega)).mono ?_; rintro e w1 ⟨rfl, rfl⟩; rw [hm])
              | (go_at_call 30; refine (HM.out _).mono ?_; rintro e w1 ⟨rfl, rfl⟩)
              | (go_at_call 31; refine (HD.out _).mono ?_; rintro e w1 ⟨rfl, k, rfl⟩))
            go_ret2
            exact ⟨ret_two HF.out.1.symm HF.out.2.symm, k, rfl⟩
          · have HF : Hid (scaleV a m n d = (q1 : Int) ∧ scaleE m n d = 0) := Lib.hid (by have := scale_of (a := a) hQ h51; rw [if_neg han] at this; exact this)
            clear hup h51 h50 hQ hq1
            go_enter Tryd.func20, Tryd.ntmps20
            go_wp2_with (first
              | (go_at_call 32; refine (valid_any _ _).mono ?_; rintro e w1 ⟨rfl, rfl⟩)
              | (go_at_call 33; refine (validUnits_any _ _).mono ?_; rintro e w1 ⟨rfl, rfl⟩)
              | (go_at_call 29; refine (magnitude_any _ _ (by omega) (by omega)).mono ?_; rintro e w1 ⟨rfl, rfl⟩; rw [hm])
              | (go_at_call 30; refine (HM.out _).mono ?_; rintro e w1 ⟨rfl, rfl⟩)
              | (go_at_call 31; refine (HD.out _).mono ?_; rintro e w1 ⟨rfl, k, rfl⟩))
            go_ret2
            exact ⟨ret_two HF.out.1.symm HF.out.2.symm, k, rfl⟩
        · have h51' : (1125899906842624 : Int) < (q : Int) + 1 := by omega
          have HF := Lib.hid (scale_out (a := a) hQ (by omega))
          clear hup h51 h50 hQ
          go_enter Tryd.func20, Tryd.ntmps20
          go_wp2_with (first
            | (go_at_call 32; refine (valid_any _ _).mono ?_; rintro e w1 ⟨rfl, rfl⟩)
            | (go_at_call 33; refine (validUnits_any _ _).mono ?_; rintro e w1 ⟨rfl, rfl⟩)
            | (go_at_call 29; refine (magnitude_any _ _ (by omega) (by omega)).mono ?_; rintro e w1 ⟨rfl, rfl⟩; rw [hm])
            | (go_at_call 30; refine (HM.out _).mono ?_; rintro e w1 ⟨rfl, rfl⟩)
            | (go_at_call 31; refine (HD.out _).mono ?_; rintro e w1 ⟨rfl, k, rfl⟩))
          go_ret2
          exact ⟨ret_two HF.out.1.symm HF.out.2.symm, k, rfl⟩
      · have hup' : ¬ (d : Int) ≤ 2 * (r : Int) := by omega
        have hQ : scaleQ m n d = q := by rw [scaleQ_down (by rw [HQ.out.2]; exact hup), HQ.out.1]
        by_cases han : a < 0
        · have HF : Hid (scaleV a m n d = -(q : Int) ∧ scaleE m n d = 0) := Lib.hid (by have := scale_of (a := a) hQ h50; rw [if_pos han] at this; exact this)
          clear hup h50 hQ
          go_enter Tryd.func20, Tryd.ntmps20
          go_wp2_with (first
            | (go_at_call 32; refine (valid_any _ _).mono ?_; rintro e w1 ⟨rfl, rfl⟩)
            | (go_at_call 33; refine (validUnits_any _ _).mono ?_; rintro e w1 ⟨rfl, rfl⟩)
            | (go_at_call 29; refine (magnitude_any _ _ (by omega) (by omega)).mono ?_; rintro e w1 ⟨rfl, rfl⟩; rw [hm])
            | (go_at_call 30; refine (HM.out _).mono ?_; rintro e w1 ⟨rfl, rfl⟩)
            | (go_at_call 31; refine (HD.out _).mono ?_; rintro e w1 ⟨rfl, k, rfl⟩))
          go_ret2
          exact ⟨ret_two HF.out.1.symm HF.out.2.symm, k, rfl⟩
        · have HF : Hid (scaleV a m n d = (q : Int) ∧ scaleE m n d = 0) := Lib.hid (by have := scale_of (a := a) hQ h50; rw [if_neg han] at this; exact this)
          clear hup h50 hQ
          go_enter Tryd.func20, Tryd.ntmps20
          go_wp2_with (first
            | (go_at_call 32; refine (valid_any _ _).mono ?_; rintro e w1 ⟨rfl, rfl⟩)
            | (go_at_call 33; refine (validUnits_any _ _).mono ?_; rintro e w1 ⟨rfl, rfl⟩)
            | (go_at_call 29; refine (magnitude_any _ _ (by omega) (by omega)).mono ?_; rintro e w1 ⟨rfl, rfl⟩; rw [hm])
            | (go_at_call 30; refine (HM.out _).mono ?_; rintro e w1 ⟨rfl, rfl⟩)
            | (go_at_call 31; refine (HD.out _).mono ?_; rintro e w1 ⟨rfl, k, rfl⟩))
          go_ret2
          exact ⟨ret_two HF.out.1.symm HF.out.2.symm, k, rfl⟩
    · have h50' : (1125899906842624 : Int) < (q : Int) := by omega
      have HF := Lib.hid (scale_over (a := a) (m := m) (n := n) (d := d) (by rw [HQ.out.1]; omega))
      clear h50
      go_enter Tryd.func20, Tryd.ntmps20
      go_wp2_with (first
        | (go_at_call 32; refine (valid_any _ _).mono ?_; rintro e w1 ⟨rfl, rfl⟩)
        | (go_at_call 33; refine (validUnits_any _ _).mono ?_; rintro e w1 ⟨rfl, rfl⟩)
        | (go_at_call 29; refine (magnitude_any _ _ (by omega) (by omega)).mono ?_; rintro e w1 ⟨rfl, rfl⟩; rw [hm])
        | (go_at_call 30; refine (HM.out _).mono ?_; rintro e w1 ⟨rfl, rfl⟩)
        | (go_at_call 31; refine (HD.out _).mono ?_; rintro e w1 ⟨rfl, k, rfl⟩))
      go_ret2
      exact ⟨ret_two HF.out.1.symm HF.out.2.symm, k, rfl⟩

set_option maxHeartbeats 4000000 in
theorem scale_bad (a n d : Int) (h : (okA a && okU n && okU d && !(d == 0)) = false) (w : World) :
    Calls Tryd.prog 20 #[.int .i64 a, .int .i64 n, .int .i64 d] w fun e w' => e = .returned (.tuple #[.int .i64 0, .int .i64 6]) ∧ w = w' := by
  cases hA : okA a
  · go_enter Tryd.func20, Tryd.ntmps20
    go_wp2_with (first
      | (go_at_call 32; refine (valid_any _ _).mono ?_; rintro e w1 ⟨rfl, rfl⟩))
    go_ret2
    exact ⟨rfl, rfl⟩
  · cases hN : okU n
    · go_enter Tryd.func20, Tryd.ntmps20
      go_wp2_with (first
        | (go_at_call 32; refine (valid_any _ _).mono ?_; rintro e w1 ⟨rfl, rfl⟩)
        | (go_at_call 33; refine (validUnits_any _ _).mono ?_; rintro e w1 ⟨rfl, rfl⟩))
      go_ret2
      exact ⟨rfl, rfl⟩
    · cases hD : okU d
      · go_enter Tryd.func20, Tryd.ntmps20
        go_wp2_with (first
          | (go_at_call 32; refine (valid_any _ _).mono ?_; rintro e w1 ⟨rfl, rfl⟩)
          | (go_at_call 33; refine (validUnits_any _ _).mono ?_; rintro e w1 ⟨rfl, rfl⟩))
        go_ret2
        exact ⟨rfl, rfl⟩
      · have h0 : (d == 0) = true := by simpa [hA, hN, hD] using h
        clear h
        go_enter Tryd.func20, Tryd.ntmps20
        go_wp2_with (first
          | (go_at_call 32; refine (valid_any _ _).mono ?_; rintro e w1 ⟨rfl, rfl⟩)
          | (go_at_call 33; refine (validUnits_any _ _).mono ?_; rintro e w1 ⟨rfl, rfl⟩))
        go_ret2
        exact ⟨rfl, rfl⟩
end Go.Proofs.YtchpfghbigaijacDoor
