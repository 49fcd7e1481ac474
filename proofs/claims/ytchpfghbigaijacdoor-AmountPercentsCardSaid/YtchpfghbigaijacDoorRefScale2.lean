/- Walk: the reference's product, rounded, of any amount. -/
import Derived.Test.YtchpfghbigaijacDoorRefScale
namespace Go.Proofs.YtchpfghbigaijacDoor
open Go.RowKit
set_option maxHeartbeats 200000 in
theorem refScale_good (a : Int) (m n d : Nat) (hm : mag a = (m : Int)) (ha : okA a = true) (hn : n ≤ 1099511627776) (hd : 0 < d) (hd2 : d ≤ 1099511627776) (w : World) :
    Calls Tryd.prog 21 #[.int .i64 a, .int .i64 (n : Int), .int .i64 (d : Int)] w fun e w' => e = .returned (.tuple #[.int .i64 (scaleV a m n d), .int .i64 (scaleE m n d)]) ∧ ∃ k, w' = w.drewN k := by
  have hab : -1125899906842624 ≤ a ∧ a ≤ 1125899906842624 := by simpa [okA] using ha
  have hm2 : m ≤ 1125899906842624 := by unfold mag at hm; split at hm <;> omega
  by_cases han : a < 0
  · have em : -a = (m : Int) := by rw [← hm, mag_neg han]
    have HR := Lib.hid (fun wx => refScale_nat m n d hm2 hn hd hd2 wx)
    have hvb : -1125899906842624 ≤ scaleV (m : Int) m n d ∧ scaleV (m : Int) m n d ≤ 1125899906842624 := by
      unfold scaleV; split
      · split <;> omega
      · omega
    have HF := Lib.hid (scaleV_neg (m := m) (n := n) (d := d) han)
    obtain ⟨V, hV⟩ : ∃ V, scaleV (m : Int) m n d = V := ⟨_, rfl⟩
    obtain ⟨E, hE⟩ : ∃ E, scaleE m n d = E := ⟨_, rfl⟩
    rw [hV] at HF hvb HR
    rw [hE] at HR ⊢
    clear hV hE
    have hn1 : ¬ (1099511627776 : Int) < (n : Int) := by omega
    have hd1 : ¬ (1099511627776 : Int) < (d : Int) := by omega
    have hd3 : ¬ (d : Int) < 1 := by omega
    have hB1 : decide ((n : Int) < 0) = false := decide_eq_false (by omega)
    have hB2 : decide ((1099511627776 : Int) < (n : Int)) = false := decide_eq_false hn1
    have hB3 : decide ((d : Int) < 1) = false := decide_eq_false hd3
    have hB4 : decide ((1099511627776 : Int) < (d : Int)) = false := decide_eq_false hd1
    go_enter Tryd.func21, Tryd.ntmps21
    go_upto_region 4 with (go_at_call 10; refine (refValid_any _ _).mono ?_; rintro e w1 ⟨rfl, rfl⟩)
    try simp only [hB1, hB2, hB3, hB4, Bool.or_self, Bool.false_or]
    clear hB1 hB2 hB3 hB4 hn1 hd1 hd3
    have EM := Lib.hid em; clear em
    go_upto_region 5 with (go_at_call 21; rw [EM.out]; refine (HR.out _).mono ?_; rintro e w1 ⟨rfl, k, rfl⟩)
    go_wp2
    go_ret2
    exact ⟨ret_two HF.out.symm rfl, k, rfl⟩
  · have em : a = (m : Int) := by rw [← hm, mag_pos han]
    rw [scaleV_pos han, em]
    exact refScale_nat m n d hm2 hn hd hd2 w
end Go.Proofs.YtchpfghbigaijacDoor
