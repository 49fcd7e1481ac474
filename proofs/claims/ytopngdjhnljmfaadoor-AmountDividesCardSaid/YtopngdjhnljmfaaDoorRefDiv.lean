/- Walk: the reference's long division, one bit a round. -/
import Derived.Test.YtopngdjhnljmfaaDoorDiv
namespace Go.Proofs.YtopngdjhnljmfaaDoor
open Go.RowKit

theorem bit_step (A n d b Q R : Nat) (hd : 0 < d) (hQ : A * n / d = Q) (hR : A * n % d = R) :
    (2 * A + b) * n / d = 2 * Q + (2 * R + b * n) / d ∧ (2 * A + b) * n % d = (2 * R + b * n) % d := by
  have h := Nat.div_add_mod (A * n) d
  rw [hQ, hR] at h
  have key : (2 * A + b) * n = d * (2 * Q) + (2 * R + b * n) := by
    rw [Nat.add_mul, Nat.mul_assoc, ← h, Nat.mul_left_comm d 2 Q, Nat.mul_add]
    omega
  rw [key]
  exact ⟨Nat.mul_add_div hd _ _, Nat.mul_add_mod _ _ _⟩

theorem half_step (a b : Nat) : a / 2 ^ b = 2 * (a / 2 ^ (b + 1)) + a / 2 ^ b % 2 := by
  rw [Nat.pow_succ, ← Nat.div_div_eq_div_mul]
  omega

theorem and_one (n : Int) : bits .and .i64 n 1 = n % 2 := by
  have h1 : (BitVec.ofInt 64 1).toNat = 2 ^ 1 - 1 := by decide
  have key : (BitVec.ofInt 64 n &&& BitVec.ofInt 64 1).toNat = (n % ((2 ^ 64 : Nat) : Int)).toNat % 2 ^ 1 := by
    rw [BitVec.toNat_and, BitVec.toNat_ofInt, h1, Nat.and_two_pow_sub_one_eq_mod]
  show IntKind.i64.wrap ((BitVec.ofInt 64 n &&& BitVec.ofInt 64 1).toNat : Nat) = n % 2
  rw [key, IntKind.wrap_i64]
  omega

/-- The quotient as the reference keeps it: never above its bound. -/
def capped (Q : Nat) : Nat := min Q 288230376151711744

theorem capped_step {Q X : Nat} : capped (2 * Q + X) = if 288230376151711744 < 2 * capped Q + X then 288230376151711744 else 2 * capped Q + X := by
  unfold capped; split <;> omega
theorem capped_le (Q : Nat) : capped Q ≤ 288230376151711744 := by unfold capped; omega

set_option maxHeartbeats 4000000 in
set_option maxRecDepth 100000 in
theorem refDivide (a n d : Nat) (ha : a < 2251799813685248) (hn : n ≤ 1099511627776) (hd : 0 < d) (hd2 : d ≤ 70368744177664) (w : World) :
    Calls Tryd.prog 10 #[.int .i64 (a : Int), .int .i64 (n : Int), .int .i64 (d : Int)] w fun e w' => e = .returned (.tuple #[.int .i64 (capped (a * n / d) : Nat), .int .i64 (a * n % d : Nat)]) ∧ ∃ m, w' = w.drewN m := by
  have hb0 : ((d : Int) == 0) = false := by simp; omega
  have hb1 : ¬ (d : Int) = 0 := by omega
  go_enter Tryd.func10, Tryd.ntmps10
  go_wp2
  go_loopg [8, 9, 10] 51 (fun g q r i wx => (∃ m, wx = w.drewN m) ∧ g ≤ 51 ∧ i = .int .i64 ((g : Int) - 1) ∧ q = .int .i64 (capped (a / 2 ^ g * n / d) : Nat) ∧ r = .int .i64 (a / 2 ^ g * n % d : Nat))
  case atStart =>
    have : a / 2 ^ 51 = 0 := by rw [Nat.div_eq_of_lt]; exact ha
    exact ⟨⟨0, rfl⟩, by omega, rfl, by rw [this]; simp [capped], by rw [this]; simp⟩
  case round =>
    obtain ⟨⟨m, rfl⟩, hg, rfl, rfl, rfl⟩ := hrel
    rcases Nat.eq_zero_or_pos gk with rfl | hpos
    · simp only [Nat.pow_zero, Nat.div_one]
      go_wp2
      go_ret2
      exact ⟨rfl, m, rfl⟩
    · obtain ⟨b, rfl⟩ : ∃ b, gk = b + 1 := ⟨gk - 1, by omega⟩
      have ei : ((b + 1 : Nat) : Int) - 1 = (b : Int) := by omega
      simp only [ei]
      have eb := half_step a b
      obtain ⟨Q, hQ⟩ : ∃ Q, a / 2 ^ (b + 1) * n / d = Q := ⟨_, rfl⟩
      obtain ⟨R, hR⟩ : ∃ R, a / 2 ^ (b + 1) * n % d = R := ⟨_, rfl⟩
      obtain ⟨t, ht⟩ : ∃ t, a / 2 ^ b % 2 = t := ⟨_, rfl⟩
      have ht2 : t < 2 := by omega
      have hRd : R < d := by rw [← hR]; exact Nat.mod_lt _ hd
      have hs := bit_step (a / 2 ^ (b + 1)) n d t Q R hd hQ hR
      rw [ht] at eb
      rw [← eb] at hs
      obtain ⟨C, hC⟩ : ∃ C, capped Q = C := ⟨_, rfl⟩
      have hCl : C ≤ 288230376151711744 := by rw [← hC]; exact capped_le Q
      have hcs := capped_step (Q := Q) (X := (2 * R + t * n) / d)
      rw [hC, ← hs.1] at hcs
      have hX : (2 * R + t * n) / d ≤ 2 * R + t * n := Nat.div_le_self _ _
      have etest : bits .and .i64 ((a : Int) / 2 ^ b) 1 = (t : Int) := by rw [and_one, shr_nat, ← ht]; omega
      simp only [hQ, hR, hC]
      have HS := Lib.hid (And.intro hs (And.intro hcs (And.intro hQ hR))); clear hs hcs hQ hR eb hC
      have ET := Lib.hid etest; clear etest
      have HT := Lib.hid ht; clear ht
      obtain ⟨Y, hY⟩ : ∃ Y, 2 * R + t * n = Y := ⟨_, rfl⟩
      rw [hY] at hX
      have hYb : Y < 9223372036854775808 := by
        have : t * n ≤ 1 * n := Nat.mul_le_mul_right n (by omega)
        omega
      obtain ⟨X, hXe⟩ : ∃ X, Y / d = X := ⟨_, rfl⟩
      obtain ⟨Z, hZe⟩ : ∃ Z, Y % d = Z := ⟨_, rfl⟩
      have HY := Lib.hid (And.intro hY (And.intro hXe hZe))
      have hcase : t = 0 ∨ t = 1 := by omega
      rcases hcase with rfl | rfl
      · have hbt : (bits .and .i64 ((a : Int) / 2 ^ b) 1 == 1) = false := by rw [ET.out]; rfl
        have EY : 2 * (R : Int) = (Y : Int) := by omega
        go_upto_region 8 with fail
        go_quiet (fail)
        go_upto_region 9 with fail
        have EX : (Y : Int) / (d : Int) = (X : Int) := by rw [div_nat, HY.out.2.1]
        have EZ : (Y : Int) % (d : Int) = (Z : Int) := by rw [← Int.natCast_emod, HY.out.2.2]
        simp only [EX, EZ]
        have hXb : X ≤ Y := by rw [← HY.out.2.1]; exact Nat.div_le_self _ _
        obtain ⟨hs, hcs, -, -⟩ := HS.out
        rw [HY.out.1] at hs hcs
        rw [HY.out.2.1] at hs hcs
        rw [HY.out.2.2] at hs
        have HF := Lib.hid (And.intro hs.2 hcs)
        clear hs hcs EX EZ EY hX
        by_cases hc : 288230376151711744 < 2 * C + X
        · have hc1 : (288230376151711744 : Int) < 2 * (C : Int) + (X : Int) := by omega
          have HC := Lib.hid hc; clear hc
          go_wp2
          go_roundg b
          case measure => omega
          case rel => exact ⟨⟨_, rfl⟩, by omega, rfl, by rw [HF.out.2, if_pos HC.out]; rfl, by rw [HF.out.1]⟩
        · have hc1 : ¬ (288230376151711744 : Int) < 2 * (C : Int) + (X : Int) := by omega
          have HC := Lib.hid hc; clear hc
          go_wp2
          go_roundg b
          case measure => omega
          case rel => exact ⟨⟨_, rfl⟩, by omega, rfl, by rw [HF.out.2, if_neg HC.out]; simp, by rw [HF.out.1]⟩
      · have hbt : (bits .and .i64 ((a : Int) / 2 ^ b) 1 == 1) = true := by rw [ET.out]; rfl
        have EY : 2 * (R : Int) + (n : Int) = (Y : Int) := by omega
        go_upto_region 8 with fail
        go_quiet (fail)
        go_upto_region 9 with fail
        have EX : (Y : Int) / (d : Int) = (X : Int) := by rw [div_nat, HY.out.2.1]
        have EZ : (Y : Int) % (d : Int) = (Z : Int) := by rw [← Int.natCast_emod, HY.out.2.2]
        simp only [EX, EZ]
        have hXb : X ≤ Y := by rw [← HY.out.2.1]; exact Nat.div_le_self _ _
        obtain ⟨hs, hcs, -, -⟩ := HS.out
        rw [HY.out.1] at hs hcs
        rw [HY.out.2.1] at hs hcs
        rw [HY.out.2.2] at hs
        have HF := Lib.hid (And.intro hs.2 hcs)
        clear hs hcs EX EZ EY hX
        by_cases hc : 288230376151711744 < 2 * C + X
        · have hc1 : (288230376151711744 : Int) < 2 * (C : Int) + (X : Int) := by omega
          have HC := Lib.hid hc; clear hc
          go_wp2
          go_roundg b
          case measure => omega
          case rel => exact ⟨⟨_, rfl⟩, by omega, rfl, by rw [HF.out.2, if_pos HC.out]; rfl, by rw [HF.out.1]⟩
        · have hc1 : ¬ (288230376151711744 : Int) < 2 * (C : Int) + (X : Int) := by omega
          have HC := Lib.hid hc; clear hc
          go_wp2
          go_roundg b
          case measure => omega
          case rel => exact ⟨⟨_, rfl⟩, by omega, rfl, by rw [HF.out.2, if_neg HC.out]; simp, by rw [HF.out.1]⟩
end Go.Proofs.YtopngdjhnljmfaaDoor
