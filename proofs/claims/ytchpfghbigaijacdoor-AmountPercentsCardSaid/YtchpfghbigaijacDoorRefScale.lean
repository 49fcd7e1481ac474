/- Walks: the reference's product, rounded. -/
import Derived.Test.YtchpfghbigaijacDoorScale
namespace Go.Proofs.YtchpfghbigaijacDoor
open Go.RowKit

theorem scaleV_neg {a : Int} {m n d : Nat} (h : a < 0) : scaleV a m n d = -scaleV (m : Int) m n d := by
  have : ¬ (m : Int) < 0 := by omega
  unfold scaleV
  simp only [h, if_true, this, if_false]
  split <;> simp
theorem scaleV_pos {a : Int} {m n d : Nat} (h : ¬ a < 0) : scaleV a m n d = scaleV (m : Int) m n d := by
  have : ¬ (m : Int) < 0 := by omega
  unfold scaleV
  simp only [h, this, if_false]

set_option maxHeartbeats 400000 in
theorem refScale_nat (m n d : Nat) (hm2 : m ≤ 1125899906842624) (hn : n ≤ 1099511627776) (hd : 0 < d) (hd2 : d ≤ 1099511627776) (w : World) :
    Calls Tryd.prog 21 #[.int .i64 (m : Int), .int .i64 (n : Int), .int .i64 (d : Int)] w fun e w' => e = .returned (.tuple #[.int .i64 (scaleV (m : Int) m n d), .int .i64 (scaleE m n d)]) ∧ ∃ k, w' = w.drewN k := by
  have ha : okA (m : Int) = true := by simp [okA]; omega
  have hn1 : ¬ (1099511627776 : Int) < (n : Int) := by omega
  have hd1 : ¬ (1099511627776 : Int) < (d : Int) := by omega
  have hd3 : ¬ (d : Int) < 1 := by omega
  have hD := fun wx => refDivide m n d (by omega) hn hd (by omega) wx
  have hrest : m * n % d < d := Nat.mod_lt _ hd
  obtain ⟨q, hq⟩ : ∃ q, m * n / d = q := ⟨_, rfl⟩
  obtain ⟨r, hr⟩ : ∃ r, m * n % d = r := ⟨_, rfl⟩
  rw [hq, hr] at hD
  rw [hr] at hrest
  have hCl := capped_le q
  have hCe : (capped q ≤ 1125899906842624 ∨ q ≤ 1125899906842624) → capped q = q := by unfold capped; omega
  obtain ⟨C, hC⟩ : ∃ C, capped q = C := ⟨_, rfl⟩
  rw [hC] at hD hCl hCe
  have HD := Lib.hid hD; clear hD
  have HQ := Lib.hid (And.intro hq hr); clear hq hr hC
  have HC := Lib.hid hCe; clear hCe
  have han : ¬ (m : Int) < 0 := by omega
  by_cases hup : d ≤ 2 * r
  · have hup' : (d : Int) ≤ 2 * (r : Int) := by omega
    have hQ : scaleQ m n d = q + 1 := by rw [scaleQ_up (by rw [HQ.out.2]; exact hup), HQ.out.1]
    obtain ⟨C1, hC1⟩ : ∃ C1, C + 1 = C1 := ⟨_, rfl⟩
    have eC1 : (C : Int) + 1 = (C1 : Int) := by omega
    by_cases h51 : C1 ≤ 1125899906842624
    · have hv : okA (C1 : Int) = true := by simp [okA]; omega
      have hq1 : q + 1 = C1 := by have := HC.out (by omega); omega
      have HF : Hid (scaleV (m : Int) m n d = (C1 : Int) ∧ scaleE m n d = 0) := Lib.hid (by have := scale_of (a := (m : Int)) (hQ.trans hq1) h51; rw [if_neg han] at this; exact this)
      clear hup h51 hQ hq1 hC1
      go_enter Tryd.func21, Tryd.ntmps21
      go_wp2_with (first
        | (go_at_call 10; refine (refValid_any _ _).mono ?_; rintro e w1 ⟨rfl, rfl⟩)
        | (go_at_call 19; refine (HD.out _).mono ?_; rintro e w1 ⟨rfl, k, rfl⟩))
      go_ret2
      exact ⟨ret_two HF.out.1.symm HF.out.2.symm, k, rfl⟩
    · have hv : okA (C1 : Int) = false := by simp [okA]; omega
      have HF := Lib.hid (scale_out (a := (m : Int)) hQ (by have := HC.out; omega))
      clear hup h51 hQ hC1
      go_enter Tryd.func21, Tryd.ntmps21
      go_wp2_with (first
        | (go_at_call 10; refine (refValid_any _ _).mono ?_; rintro e w1 ⟨rfl, rfl⟩)
        | (go_at_call 19; refine (HD.out _).mono ?_; rintro e w1 ⟨rfl, k, rfl⟩))
      go_ret2
      exact ⟨ret_two HF.out.1.symm HF.out.2.symm, k, rfl⟩
  · have hup' : ¬ (d : Int) ≤ 2 * (r : Int) := by omega
    have hQ : scaleQ m n d = q := by rw [scaleQ_down (by rw [HQ.out.2]; exact hup), HQ.out.1]
    by_cases h51 : C ≤ 1125899906842624
    · have hv : okA (C : Int) = true := by simp [okA]; omega
      have hq1 : q = C := by have := HC.out (by omega); omega
      have HF : Hid (scaleV (m : Int) m n d = (C : Int) ∧ scaleE m n d = 0) := Lib.hid (by have := scale_of (a := (m : Int)) (hQ.trans hq1) h51; rw [if_neg han] at this; exact this)
      clear hup h51 hQ hq1
      go_enter Tryd.func21, Tryd.ntmps21
      go_wp2_with (first
        | (go_at_call 10; refine (refValid_any _ _).mono ?_; rintro e w1 ⟨rfl, rfl⟩)
        | (go_at_call 19; refine (HD.out _).mono ?_; rintro e w1 ⟨rfl, k, rfl⟩))
      go_ret2
      exact ⟨ret_two HF.out.1.symm HF.out.2.symm, k, rfl⟩
    · have hv : okA (C : Int) = false := by simp [okA]; omega
      have HF := Lib.hid (scale_out (a := (m : Int)) hQ (by have := HC.out; omega))
      clear hup h51 hQ
      go_enter Tryd.func21, Tryd.ntmps21
      go_wp2_with (first
        | (go_at_call 10; refine (refValid_any _ _).mono ?_; rintro e w1 ⟨rfl, rfl⟩)
        | (go_at_call 19; refine (HD.out _).mono ?_; rintro e w1 ⟨rfl, k, rfl⟩))
      go_ret2
      exact ⟨ret_two HF.out.1.symm HF.out.2.symm, k, rfl⟩

end Go.Proofs.YtchpfghbigaijacDoor
