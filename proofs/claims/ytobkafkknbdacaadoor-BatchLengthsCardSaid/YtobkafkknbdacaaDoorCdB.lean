/- Arithmetic of words, as the walks spell it. -/
import Derived.Test.YtobkafkknbdacaaDoorCdM
import Derived.Laws.Bits64
import Derived.Laws.Bits64b
import Derived.WalkKit
namespace Go.Proofs.YtobkafkknbdacaaDoor
theorem xor_max (y : Nat) (h : y < 18446744073709551616) : 18446744073709551615 ^^^ y = 18446744073709551615 - y := by
  have e : (18446744073709551615 : Nat) = (BitVec.allOnes 64).toNat := by simp
  have e2 : y = (BitVec.ofNat 64 y).toNat := by simp; omega
  have h3 : (BitVec.allOnes 64 ^^^ BitVec.ofNat 64 y).toNat = (~~~ (BitVec.ofNat 64 y)).toNat := by rw [BitVec.allOnes_xor]
  rw [BitVec.toNat_xor, BitVec.toNat_not, ← e, ← e2] at h3
  simpa using h3
theorem bits_not (y : Int) (h0 : 0 ≤ y) (h : y < 18446744073709551616) : bits BinOp.xor .u64 IntKind.u64.max y = 18446744073709551615 - y := by
  obtain ⟨n, rfl⟩ := Int.eq_ofNat_of_zero_le h0
  have e : IntKind.u64.max = ((18446744073709551615 : Nat) : Int) := by decide
  rw [e, bits_xor_u64_nat _ _ (by omega) (by omega), xor_max n (by omega)]
  omega
theorem wrap_u64 (n : Int) : IntKind.u64.wrap n = n % 18446744073709551616 := by
  simp [IntKind.wrap, IntKind.signed, IntKind.bits]
theorem wrap_u8 (n : Int) : IntKind.u8.wrap n = n % 256 := by
  simp [IntKind.wrap, IntKind.signed, IntKind.bits]
theorem wrap_i64 (n : Int) : IntKind.i64.wrap n = if n % 18446744073709551616 ≥ 9223372036854775808 then n % 18446744073709551616 - 18446744073709551616 else n % 18446744073709551616 := by
  simp [IntKind.wrap, IntKind.signed, IntKind.bits]
theorem zig_neg {z : Int} (h1 : -9223372036854775808 ≤ z) (h : z < 0) : bits BinOp.xor .u64 IntKind.u64.max (IntKind.u64.wrap (IntKind.u64.wrap z * 2)) = (zig z : Int) := by
  rw [wrap_u64, wrap_u64, bits_not _ (by omega) (by omega)]
  unfold zig
  rw [if_pos h]; omega
theorem zig_pos {z : Int} (h : ¬ z < 0) : z * 2 = (zig z : Int) := by
  unfold zig; rw [if_neg h]; omega
theorem or_byte (u : Nat) : bits BinOp.or .u8 ((u : Int) % 256) 128 = ((u % 128 + 128 : Nat) : Int) := by
  have key : ∀ n : Fin 256, bits BinOp.or IntKind.u8 (n.val : Int) 128 = ((n.val % 128 + 128 : Nat) : Int) := by decide +kernel
  have := key ⟨u % 256, by omega⟩
  rw [show (u : Int) % 256 = ((u % 256 : Nat) : Int) by omega, this]
  congr 1
  simp only
  omega
theorem and127 (x : Int) (h0 : 0 ≤ x) (h1 : x ≤ 255) : bits BinOp.and .u8 x 127 = x % 128 := by
  have key : ∀ n : Fin 256, bits BinOp.and IntKind.u8 (n.val : Int) 127 = (n.val : Int) % 128 := by decide +kernel
  have := key ⟨x.toNat, by omega⟩
  simp only at this
  rwa [show ((x.toNat : Nat) : Int) = x by omega] at this
theorem or_add (a y i : Nat) (ha : a < 128 ^ i) (hy : y * 128 ^ i < 18446744073709551616) (ha' : a < 18446744073709551616) : bits BinOp.or .u64 (a : Int) ((y * 128 ^ i : Nat) : Int) = ((a + y * 128 ^ i : Nat) : Int) := by
  rw [bits_or_u64_nat _ _ ha' hy]
  have e : (128 : Nat) ^ i = 2 ^ (7 * i) := by rw [Nat.pow_mul]
  congr 1
  rw [e] at ha ⊢
  have := Nat.shiftLeft_add_eq_or_of_lt ha y
  rw [Nat.shiftLeft_eq] at this
  rw [Nat.or_comm, ← this, Nat.add_comm]
theorem or_step {acc k : Nat} {x : Int} (hk : k ≤ 9) (ha : acc < 128 ^ k) (hx : 0 ≤ x ∧ x ≤ 255) (h9 : k = 9 → x = 1) :
    bits BinOp.or .u64 (acc : Int) (IntKind.u64.wrap (x % 128 * 2 ^ (7 * k))) = ((acc + (x % 128).toNat * 128 ^ k : Nat) : Int) ∧ acc + (x % 128).toNat * 128 ^ k < 18446744073709551616 := by
  have e : (2 : Int) ^ (7 * k) = ((128 ^ k : Nat) : Int) := by
    rw [Int.natCast_pow, Int.pow_mul]; rfl
  have hy : (x % 128).toNat * 128 ^ k + acc < 18446744073709551616 := by
    rcases Nat.lt_or_ge k 9 with h | h
    · have h1 : (128 : Nat) ^ k ≤ 128 ^ 8 := Nat.pow_le_pow_right (by decide) (by omega)
      rw [show (128 : Nat) ^ 8 = 72057594037927936 by decide] at h1
      have h2 : (x % 128).toNat * 128 ^ k ≤ 127 * 72057594037927936 := Nat.mul_le_mul (by omega) h1
      omega
    · obtain rfl : k = 9 := by omega
      have := h9 rfl
      subst this
      rw [pow9] at ha ⊢
      simp; omega
  have e2 : x % 128 * 2 ^ (7 * k) = (((x % 128).toNat * 128 ^ k : Nat) : Int) := by
    rw [e, Int.natCast_mul]; congr 1; omega
  rw [e2, wrap_u64]
  have e3 : (((x % 128).toNat * 128 ^ k : Nat) : Int) % 18446744073709551616 = (((x % 128).toNat * 128 ^ k : Nat) : Int) := by omega
  rw [e3]
  exact ⟨or_add acc (x % 128).toNat k ha (by omega) (by omega), by omega⟩
theorem and_one (u : Nat) (h : u < 18446744073709551616) : bits BinOp.and .u64 (u : Int) 1 = ((u % 2 : Nat) : Int) := by
  rw [show (1 : Int) = ((1 : Nat) : Int) by rfl, bits_and_u64_nat _ _ h (by omega), Nat.and_one_is_mod]
end Go.Proofs.YtobkafkknbdacaaDoor
