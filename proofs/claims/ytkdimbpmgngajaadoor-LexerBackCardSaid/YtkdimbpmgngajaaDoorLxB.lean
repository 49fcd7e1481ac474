/- Walks: functions of one byte, of the program and of the reference. -/
import Derived.Test.YtkdimbpmgngajaaDoorLxV
namespace Go.Proofs.YtkdimbpmgngajaaDoor.Lx
open Go Go.Lib Go.RowKit Go.Proofs.YtkdimbpmgngajaaDoor

set_option maxHeartbeats 1000000 in
theorem isDigit_any : Byt 38 digB := by
  intro b w
  have HF := Lib.hid (show digB b = (decide (48 ≤ b.toNat) && decide (b.toNat ≤ 57)) from rfl)
  by_cases h1 : 48 ≤ b.toNat
  · by_cases h2 : b.toNat ≤ 57
    · have a1 : (48 : Int) ≤ (b.toNat : Int) := by omega
      have a2 : (b.toNat : Int) ≤ (57 : Int) := by omega
      have HR : Hid (digB b = true) := Lib.hid (by rw [HF.out, decide_eq_true h1, decide_eq_true h2]; rfl)
      go_enter Tryd.func38, Tryd.ntmps38
      go_wp2_with fail
      go_ret
      exact ⟨ret_bool HR.out.symm, rfl⟩
    · have a1 : (48 : Int) ≤ (b.toNat : Int) := by omega
      have a2 : decide ((b.toNat : Int) ≤ (57 : Int)) = false := decide_eq_false (by omega)
      have a3 : decide (b.toNat ≤ 57) = false := decide_eq_false h2
      have HR : Hid (digB b = false) := Lib.hid (by rw [HF.out, a3, Bool.and_false])
      clear h2
      go_enter Tryd.func38, Tryd.ntmps38
      go_wp2_with fail
      go_ret
      exact ⟨ret_bool HR.out.symm, rfl⟩
  · have a1 : decide ((48 : Int) ≤ (b.toNat : Int)) = false := decide_eq_false (by omega)
    have a3 : decide (48 ≤ b.toNat) = false := decide_eq_false h1
    have HR : Hid (digB b = false) := Lib.hid (by rw [HF.out, a3, Bool.false_and])
    clear h1
    go_enter Tryd.func38, Tryd.ntmps38
    go_wp2_with fail
    go_ret
    exact ⟨ret_bool HR.out.symm, rfl⟩
set_option maxHeartbeats 1000000 in
theorem lower_any : Byt 28 lowB := by
  intro b w
  have HF := Lib.hid (show lowB b = (decide (97 ≤ b.toNat) && decide (b.toNat ≤ 122)) from rfl)
  by_cases h1 : 97 ≤ b.toNat
  · by_cases h2 : b.toNat ≤ 122
    · have a1 : (97 : Int) ≤ (b.toNat : Int) := by omega
      have a2 : (b.toNat : Int) ≤ (122 : Int) := by omega
      have HR : Hid (lowB b = true) := Lib.hid (by rw [HF.out, decide_eq_true h1, decide_eq_true h2]; rfl)
      go_enter Tryd.func28, Tryd.ntmps28
      go_wp2_with fail
      go_ret
      exact ⟨ret_bool HR.out.symm, rfl⟩
    · have a1 : (97 : Int) ≤ (b.toNat : Int) := by omega
      have a2 : decide ((b.toNat : Int) ≤ (122 : Int)) = false := decide_eq_false (by omega)
      have a3 : decide (b.toNat ≤ 122) = false := decide_eq_false h2
      have HR : Hid (lowB b = false) := Lib.hid (by rw [HF.out, a3, Bool.and_false])
      clear h2
      go_enter Tryd.func28, Tryd.ntmps28
      go_wp2_with fail
      go_ret
      exact ⟨ret_bool HR.out.symm, rfl⟩
  · have a1 : decide ((97 : Int) ≤ (b.toNat : Int)) = false := decide_eq_false (by omega)
    have a3 : decide (97 ≤ b.toNat) = false := decide_eq_false h1
    have HR : Hid (lowB b = false) := Lib.hid (by rw [HF.out, a3, Bool.false_and])
    clear h1
    go_enter Tryd.func28, Tryd.ntmps28
    go_wp2_with fail
    go_ret
    exact ⟨ret_bool HR.out.symm, rfl⟩
set_option maxHeartbeats 1000000 in
theorem digit_any : Byt 30 digB := by
  intro b w
  have HF := Lib.hid (show digB b = (decide (48 ≤ b.toNat) && decide (b.toNat ≤ 57)) from rfl)
  by_cases h1 : 48 ≤ b.toNat
  · by_cases h2 : b.toNat ≤ 57
    · have a1 : (48 : Int) ≤ (b.toNat : Int) := by omega
      have a2 : (b.toNat : Int) ≤ (57 : Int) := by omega
      have HR : Hid (digB b = true) := Lib.hid (by rw [HF.out, decide_eq_true h1, decide_eq_true h2]; rfl)
      go_enter Tryd.func30, Tryd.ntmps30
      go_wp2_with fail
      go_ret
      exact ⟨ret_bool HR.out.symm, rfl⟩
    · have a1 : (48 : Int) ≤ (b.toNat : Int) := by omega
      have a2 : decide ((b.toNat : Int) ≤ (57 : Int)) = false := decide_eq_false (by omega)
      have a3 : decide (b.toNat ≤ 57) = false := decide_eq_false h2
      have HR : Hid (digB b = false) := Lib.hid (by rw [HF.out, a3, Bool.and_false])
      clear h2
      go_enter Tryd.func30, Tryd.ntmps30
      go_wp2_with fail
      go_ret
      exact ⟨ret_bool HR.out.symm, rfl⟩
  · have a1 : decide ((48 : Int) ≤ (b.toNat : Int)) = false := decide_eq_false (by omega)
    have a3 : decide (48 ≤ b.toNat) = false := decide_eq_false h1
    have HR : Hid (digB b = false) := Lib.hid (by rw [HF.out, a3, Bool.false_and])
    clear h1
    go_enter Tryd.func30, Tryd.ntmps30
    go_wp2_with fail
    go_ret
    exact ⟨ret_bool HR.out.symm, rfl⟩
set_option maxHeartbeats 1000000 in
theorem isBlank_any : Byt 46 blkB := by
  intro b w
  have HF := Lib.hid (show blkB b = (b == 32 || b == 9 || b == 10) from rfl)
  have e32 : ((b.toNat : Int) == (32 : Int)) = (b == 32) := beq_nat b 32 (by decide)
  have e9 : ((b.toNat : Int) == (9 : Int)) = (b == 9) := beq_nat b 9 (by decide)
  have e10 : ((b.toNat : Int) == (10 : Int)) = (b == 10) := beq_nat b 10 (by decide)
  cases h32 : (b == 32)
  · rw [h32] at e32
    have n32 : ((b.toNat : Int) != (32 : Int)) = true := by rw [bne, e32]; rfl
    cases h9 : (b == 9)
    · rw [h9] at e9
      have n9 : ((b.toNat : Int) != (9 : Int)) = true := by rw [bne, e9]; rfl
      cases h10 : (b == 10)
      · rw [h10] at e10
        have n10 : ((b.toNat : Int) != (10 : Int)) = true := by rw [bne, e10]; rfl
        have HR : Hid (blkB b = false) := Lib.hid (by rw [HF.out, h32, h9, h10] <;> rfl)
        go_enter Tryd.func46, Tryd.ntmps46
        go_wp2_with fail
        go_ret
        exact ⟨ret_bool HR.out.symm, rfl⟩
      · rw [h10] at e10
        have n10 : ((b.toNat : Int) != (10 : Int)) = false := by rw [bne, e10]; rfl
        have HR : Hid (blkB b = true) := Lib.hid (by rw [HF.out, h32, h9, h10] <;> rfl)
        go_enter Tryd.func46, Tryd.ntmps46
        go_wp2_with fail
        go_ret
        exact ⟨ret_bool HR.out.symm, rfl⟩
    · rw [h9] at e9
      have n9 : ((b.toNat : Int) != (9 : Int)) = false := by rw [bne, e9]; rfl
      have HR : Hid (blkB b = true) := Lib.hid (by rw [HF.out, h32, h9] <;> rfl)
      go_enter Tryd.func46, Tryd.ntmps46
      go_wp2_with fail
      go_ret
      exact ⟨ret_bool HR.out.symm, rfl⟩
  · rw [h32] at e32
    have n32 : ((b.toNat : Int) != (32 : Int)) = false := by rw [bne, e32]; rfl
    have HR : Hid (blkB b = true) := Lib.hid (by rw [HF.out, h32] <;> rfl)
    go_enter Tryd.func46, Tryd.ntmps46
    go_wp2_with fail
    go_ret
    exact ⟨ret_bool HR.out.symm, rfl⟩
def comB (b : UInt8) : Bool := !(b == 10)
set_option maxHeartbeats 1000000 in
theorem isComment_any : Byt 47 comB := by
  intro b w
  have HF := Lib.hid (show comB b = (!(b == 10)) from rfl)
  have e10 : ((b.toNat : Int) == (10 : Int)) = (b == 10) := beq_nat b 10 (by decide)
  cases h10 : (b == 10)
  · rw [h10] at e10
    have n10 : ((b.toNat : Int) != (10 : Int)) = true := by rw [bne, e10]; rfl
    have HR : Hid (comB b = true) := Lib.hid (by rw [HF.out, h10] <;> rfl)
    go_enter Tryd.func47, Tryd.ntmps47
    go_wp2_with fail
    go_ret
    exact ⟨ret_bool HR.out.symm, rfl⟩
  · rw [h10] at e10
    have n10 : ((b.toNat : Int) != (10 : Int)) = false := by rw [bne, e10]; rfl
    have HR : Hid (comB b = false) := Lib.hid (by rw [HF.out, h10] <;> rfl)
    go_enter Tryd.func47, Tryd.ntmps47
    go_wp2_with fail
    go_ret
    exact ⟨ret_bool HR.out.symm, rfl⟩
set_option maxHeartbeats 1000000 in
theorem isQuotable_any : Byt 24 txtB := by
  intro b w
  have HF := Lib.hid (show txtB b = (decide (32 ≤ b.toNat) && decide (b.toNat ≤ 126) && !(b == 34)) from rfl)
  have e34 : ((b.toNat : Int) == (34 : Int)) = (b == 34) := beq_nat b 34 (by decide)
  cases h34 : (b == 34)
  · rw [h34] at e34
    have n34 : ((b.toNat : Int) != (34 : Int)) = true := by rw [bne, e34]; rfl
    by_cases h1 : 32 ≤ b.toNat
    · by_cases h2 : b.toNat ≤ 126
      · have a1 : (32 : Int) ≤ (b.toNat : Int) := by omega
        have a2 : (b.toNat : Int) ≤ (126 : Int) := by omega
        have HR : Hid (txtB b = true) := Lib.hid (by rw [HF.out, decide_eq_true h1, decide_eq_true h2, h34]; rfl)
        go_enter Tryd.func24, Tryd.ntmps24
        go_wp2_with fail
        go_ret
        exact ⟨ret_bool HR.out.symm, rfl⟩
      · have a1 : (32 : Int) ≤ (b.toNat : Int) := by omega
        have a2 : decide ((b.toNat : Int) ≤ (126 : Int)) = false := decide_eq_false (by omega)
        have a3 : decide (b.toNat ≤ 126) = false := decide_eq_false h2
        have HR : Hid (txtB b = false) := Lib.hid (by rw [HF.out, a3, Bool.and_false, Bool.false_and])
        clear h2
        go_enter Tryd.func24, Tryd.ntmps24
        go_wp2_with fail
        go_ret
        exact ⟨ret_bool HR.out.symm, rfl⟩
    · have a1 : decide ((32 : Int) ≤ (b.toNat : Int)) = false := decide_eq_false (by omega)
      have a3 : decide (32 ≤ b.toNat) = false := decide_eq_false h1
      have HR : Hid (txtB b = false) := Lib.hid (by rw [HF.out, a3, Bool.false_and, Bool.false_and])
      clear h1
      go_enter Tryd.func24, Tryd.ntmps24
      go_wp2_with fail
      go_ret
      exact ⟨ret_bool HR.out.symm, rfl⟩
  · rw [h34] at e34
    have n34 : ((b.toNat : Int) != (34 : Int)) = false := by rw [bne, e34]; rfl
    by_cases h1 : 32 ≤ b.toNat
    · by_cases h2 : b.toNat ≤ 126
      · have a1 : (32 : Int) ≤ (b.toNat : Int) := by omega
        have a2 : (b.toNat : Int) ≤ (126 : Int) := by omega
        have HR : Hid (txtB b = false) := Lib.hid (by rw [HF.out, decide_eq_true h1, decide_eq_true h2, h34]; rfl)
        go_enter Tryd.func24, Tryd.ntmps24
        go_wp2_with fail
        go_ret
        exact ⟨ret_bool HR.out.symm, rfl⟩
      · have a1 : (32 : Int) ≤ (b.toNat : Int) := by omega
        have a2 : decide ((b.toNat : Int) ≤ (126 : Int)) = false := decide_eq_false (by omega)
        have a3 : decide (b.toNat ≤ 126) = false := decide_eq_false h2
        have HR : Hid (txtB b = false) := Lib.hid (by rw [HF.out, a3, Bool.and_false, Bool.false_and])
        clear h2
        go_enter Tryd.func24, Tryd.ntmps24
        go_wp2_with fail
        go_ret
        exact ⟨ret_bool HR.out.symm, rfl⟩
    · have a1 : decide ((32 : Int) ≤ (b.toNat : Int)) = false := decide_eq_false (by omega)
      have a3 : decide (32 ≤ b.toNat) = false := decide_eq_false h1
      have HR : Hid (txtB b = false) := Lib.hid (by rw [HF.out, a3, Bool.false_and, Bool.false_and])
      clear h1
      go_enter Tryd.func24, Tryd.ntmps24
      go_wp2_with fail
      go_ret
      exact ⟨ret_bool HR.out.symm, rfl⟩
set_option maxHeartbeats 1000000 in
theorem inText_any : Byt 26 txtB := by
  intro b w
  have HF := Lib.hid (show txtB b = (decide (32 ≤ b.toNat) && decide (b.toNat ≤ 126) && !(b == 34)) from rfl)
  have e34 : ((b.toNat : Int) == (34 : Int)) = (b == 34) := beq_nat b 34 (by decide)
  cases h34 : (b == 34)
  · rw [h34] at e34
    have n34 : ((b.toNat : Int) != (34 : Int)) = true := by rw [bne, e34]; rfl
    by_cases h1 : 32 ≤ b.toNat
    · by_cases h2 : b.toNat ≤ 126
      · have a1 : (32 : Int) ≤ (b.toNat : Int) := by omega
        have a2 : (b.toNat : Int) ≤ (126 : Int) := by omega
        have HR : Hid (txtB b = true) := Lib.hid (by rw [HF.out, decide_eq_true h1, decide_eq_true h2, h34]; rfl)
        go_enter Tryd.func26, Tryd.ntmps26
        go_wp2_with fail
        go_ret
        exact ⟨ret_bool HR.out.symm, rfl⟩
      · have a1 : (32 : Int) ≤ (b.toNat : Int) := by omega
        have a2 : decide ((b.toNat : Int) ≤ (126 : Int)) = false := decide_eq_false (by omega)
        have a3 : decide (b.toNat ≤ 126) = false := decide_eq_false h2
        have HR : Hid (txtB b = false) := Lib.hid (by rw [HF.out, a3, Bool.and_false, Bool.false_and])
        clear h2
        go_enter Tryd.func26, Tryd.ntmps26
        go_wp2_with fail
        go_ret
        exact ⟨ret_bool HR.out.symm, rfl⟩
    · have a1 : decide ((32 : Int) ≤ (b.toNat : Int)) = false := decide_eq_false (by omega)
      have a3 : decide (32 ≤ b.toNat) = false := decide_eq_false h1
      have HR : Hid (txtB b = false) := Lib.hid (by rw [HF.out, a3, Bool.false_and, Bool.false_and])
      clear h1
      go_enter Tryd.func26, Tryd.ntmps26
      go_wp2_with fail
      go_ret
      exact ⟨ret_bool HR.out.symm, rfl⟩
  · rw [h34] at e34
    have n34 : ((b.toNat : Int) != (34 : Int)) = false := by rw [bne, e34]; rfl
    by_cases h1 : 32 ≤ b.toNat
    · by_cases h2 : b.toNat ≤ 126
      · have a1 : (32 : Int) ≤ (b.toNat : Int) := by omega
        have a2 : (b.toNat : Int) ≤ (126 : Int) := by omega
        have HR : Hid (txtB b = false) := Lib.hid (by rw [HF.out, decide_eq_true h1, decide_eq_true h2, h34]; rfl)
        go_enter Tryd.func26, Tryd.ntmps26
        go_wp2_with fail
        go_ret
        exact ⟨ret_bool HR.out.symm, rfl⟩
      · have a1 : (32 : Int) ≤ (b.toNat : Int) := by omega
        have a2 : decide ((b.toNat : Int) ≤ (126 : Int)) = false := decide_eq_false (by omega)
        have a3 : decide (b.toNat ≤ 126) = false := decide_eq_false h2
        have HR : Hid (txtB b = false) := Lib.hid (by rw [HF.out, a3, Bool.and_false, Bool.false_and])
        clear h2
        go_enter Tryd.func26, Tryd.ntmps26
        go_wp2_with fail
        go_ret
        exact ⟨ret_bool HR.out.symm, rfl⟩
    · have a1 : decide ((32 : Int) ≤ (b.toNat : Int)) = false := decide_eq_false (by omega)
      have a3 : decide (32 ≤ b.toNat) = false := decide_eq_false h1
      have HR : Hid (txtB b = false) := Lib.hid (by rw [HF.out, a3, Bool.false_and, Bool.false_and])
      clear h1
      go_enter Tryd.func26, Tryd.ntmps26
      go_wp2_with fail
      go_ret
      exact ⟨ret_bool HR.out.symm, rfl⟩
set_option maxHeartbeats 1000000 in
theorem isWord_any : Byt 48 wrdB := by
  intro b w
  have HF := Lib.hid (show wrdB b = (lowB b || digB b || b == 45) from rfl)
  have e45 : ((b.toNat : Int) == (45 : Int)) = (b == 45) := beq_nat b 45 (by decide)
  have HL := Lib.hid (fun W => isLetter_any b W)
  have HD := Lib.hid (fun W => isDigit_any b W)
  cases h1 : lowB b
  · rw [h1] at HL
    cases h2 : digB b
    · rw [h2] at HD
      cases h3 : (b == 45)
      · rw [h3] at e45
        have HR : Hid (wrdB b = false) := Lib.hid (by rw [HF.out, h1, h2, h3]; rfl)
        go_enter Tryd.func48, Tryd.ntmps48
        go_wp2_with (first | (go_at_call 36; (with_reducible refine (HL.out _).mono ?_); rintro e w1 ⟨rfl, rfl⟩) | (go_at_call 38; (with_reducible refine (HD.out _).mono ?_); rintro e w1 ⟨rfl, rfl⟩))
        go_ret
        exact ⟨ret_bool HR.out.symm, rfl⟩
      · rw [h3] at e45
        have HR : Hid (wrdB b = true) := Lib.hid (by rw [HF.out, h1, h2, h3]; rfl)
        go_enter Tryd.func48, Tryd.ntmps48
        go_wp2_with (first | (go_at_call 36; (with_reducible refine (HL.out _).mono ?_); rintro e w1 ⟨rfl, rfl⟩) | (go_at_call 38; (with_reducible refine (HD.out _).mono ?_); rintro e w1 ⟨rfl, rfl⟩))
        go_ret
        exact ⟨ret_bool HR.out.symm, rfl⟩
    · rw [h2] at HD
      have HR : Hid (wrdB b = true) := Lib.hid (by rw [HF.out, h1, h2]; rfl)
      go_enter Tryd.func48, Tryd.ntmps48
      go_wp2_with (first | (go_at_call 36; (with_reducible refine (HL.out _).mono ?_); rintro e w1 ⟨rfl, rfl⟩) | (go_at_call 38; (with_reducible refine (HD.out _).mono ?_); rintro e w1 ⟨rfl, rfl⟩))
      go_ret
      exact ⟨ret_bool HR.out.symm, rfl⟩
  · rw [h1] at HL
    have HR : Hid (wrdB b = true) := Lib.hid (by rw [HF.out, h1]; rfl)
    go_enter Tryd.func48, Tryd.ntmps48
    go_wp2_with (first | (go_at_call 36; (with_reducible refine (HL.out _).mono ?_); rintro e w1 ⟨rfl, rfl⟩) | (go_at_call 38; (with_reducible refine (HD.out _).mono ?_); rintro e w1 ⟨rfl, rfl⟩))
    go_ret
    exact ⟨ret_bool HR.out.symm, rfl⟩
set_option maxHeartbeats 1000000 in
theorem inWord_any : Byt 43 wrdB := by
  intro b w
  have HF := Lib.hid (show wrdB b = (lowB b || digB b || b == 45) from rfl)
  have e45 : ((b.toNat : Int) == (45 : Int)) = (b == 45) := beq_nat b 45 (by decide)
  have HL := Lib.hid (fun W => lower_any b W)
  have HD := Lib.hid (fun W => digit_any b W)
  cases h1 : lowB b
  · rw [h1] at HL
    cases h2 : digB b
    · rw [h2] at HD
      cases h3 : (b == 45)
      · rw [h3] at e45
        have HR : Hid (wrdB b = false) := Lib.hid (by rw [HF.out, h1, h2, h3]; rfl)
        go_enter Tryd.func43, Tryd.ntmps43
        go_wp2_with (first | (go_at_call 28; (with_reducible refine (HL.out _).mono ?_); rintro e w1 ⟨rfl, rfl⟩) | (go_at_call 30; (with_reducible refine (HD.out _).mono ?_); rintro e w1 ⟨rfl, rfl⟩))
        go_ret
        exact ⟨ret_bool HR.out.symm, rfl⟩
      · rw [h3] at e45
        have HR : Hid (wrdB b = true) := Lib.hid (by rw [HF.out, h1, h2, h3]; rfl)
        go_enter Tryd.func43, Tryd.ntmps43
        go_wp2_with (first | (go_at_call 28; (with_reducible refine (HL.out _).mono ?_); rintro e w1 ⟨rfl, rfl⟩) | (go_at_call 30; (with_reducible refine (HD.out _).mono ?_); rintro e w1 ⟨rfl, rfl⟩))
        go_ret
        exact ⟨ret_bool HR.out.symm, rfl⟩
    · rw [h2] at HD
      have HR : Hid (wrdB b = true) := Lib.hid (by rw [HF.out, h1, h2]; rfl)
      go_enter Tryd.func43, Tryd.ntmps43
      go_wp2_with (first | (go_at_call 28; (with_reducible refine (HL.out _).mono ?_); rintro e w1 ⟨rfl, rfl⟩) | (go_at_call 30; (with_reducible refine (HD.out _).mono ?_); rintro e w1 ⟨rfl, rfl⟩))
      go_ret
      exact ⟨ret_bool HR.out.symm, rfl⟩
  · rw [h1] at HL
    have HR : Hid (wrdB b = true) := Lib.hid (by rw [HF.out, h1]; rfl)
    go_enter Tryd.func43, Tryd.ntmps43
    go_wp2_with (first | (go_at_call 28; (with_reducible refine (HL.out _).mono ?_); rintro e w1 ⟨rfl, rfl⟩) | (go_at_call 30; (with_reducible refine (HD.out _).mono ?_); rintro e w1 ⟨rfl, rfl⟩))
    go_ret
    exact ⟨ret_bool HR.out.symm, rfl⟩
end Go.Proofs.YtkdimbpmgngajaaDoor.Lx
