/- Mathematics: the division of two words by one, digit by digit, each of 32 bits. -/
import Derived.Lib.ItoaNum
import Derived.Laws.Bits64b
namespace Go.Proofs.YtopngdjhnljmfaaDoor

/-- The state of a digit's loop: the guess is not too small, and the rest belongs to it. -/
def Guess (U d v1 v0 q r : Nat) : Prop := q * v1 + r = U ∧ (U * 4294967296 + d) / (v1 * 4294967296 + v0) ≤ q ∧ q ≤ 4294967297

theorem split_mul (q v1 v0 : Nat) : q * (v1 * 4294967296 + v0) = q * v1 * 4294967296 + q * v0 := by
  rw [Nat.mul_add, Nat.mul_assoc]

theorem guess_init {U d v1 v0 : Nat} (h1 : 2147483648 ≤ v1) (h2 : v0 < 4294967296) (hU : U < v1 * 4294967296 + v0) (hd : d < 4294967296) :
    Guess U d v1 v0 (U / v1) (U % v1) ∧ U % v1 < v1 := by
  have hm := Nat.div_add_mod U v1
  have hc := Nat.mul_comm v1 (U / v1)
  have hl := Nat.mod_lt U (show 0 < v1 by omega)
  refine ⟨⟨by omega, ?_, ?_⟩, hl⟩
  · rw [Nat.le_div_iff_mul_le (by omega)]
    have hq := Nat.div_mul_le_self (U * 4294967296 + d) (v1 * 4294967296 + v0)
    rw [split_mul] at hq
    omega
  · have : U / v1 < 4294967298 := by
      rw [Nat.div_lt_iff_lt_mul (by omega)]
      omega
    omega

theorem quot_small {U d v : Nat} (hU : U < v) (hd : d < 4294967296) : (U * 4294967296 + d) / v < 4294967296 := by
  rw [Nat.div_lt_iff_lt_mul (by omega)]
  omega

theorem guess_stop {U d v1 v0 q r : Nat} (h1 : 2147483648 ≤ v1) (h : Guess U d v1 v0 q r) (hc : q * v0 ≤ 4294967296 * r + d) :
    q = (U * 4294967296 + d) / (v1 * 4294967296 + v0) := by
  obtain ⟨ha, hb, -⟩ := h
  have : q ≤ (U * 4294967296 + d) / (v1 * 4294967296 + v0) := by
    rw [Nat.le_div_iff_mul_le (by omega), split_mul]
    omega
  omega

theorem guess_more {U d v1 v0 q r : Nat} (h1 : 2147483648 ≤ v1) (hU : U < v1 * 4294967296 + v0) (hd : d < 4294967296) (h : Guess U d v1 v0 q r)
    (hc : 4294967296 ≤ q ∨ 4294967296 * r + d < q * v0) :
    1 ≤ q ∧ Guess U d v1 v0 (q - 1) (r + v1) ∧ q - 1 ≤ 4294967296 := by
  obtain ⟨ha, hb, he⟩ := h
  have hs := quot_small hU hd
  have hlt : (U * 4294967296 + d) / (v1 * 4294967296 + v0) < q := by
    rcases hc with hc | hc
    · omega
    · rw [Nat.div_lt_iff_lt_mul (by omega), split_mul]
      omega
  have h1q : 1 ≤ q := Nat.lt_of_le_of_lt (Nat.zero_le _) hlt
  have hp : q * v1 = (q - 1) * v1 + v1 := by
    obtain ⟨k, hk⟩ : ∃ k, q = k + 1 := ⟨q - 1, (Nat.sub_add_cancel h1q).symm⟩
    rw [hk, Nat.add_mul]; simp
  have hq1 : q - 1 ≤ 4294967296 := by clear hlt hs hb hp hc ha hU; omega
  exact ⟨h1q, ⟨by omega, Nat.le_sub_one_of_lt hlt, by omega⟩, hq1⟩

theorem guess_break {U d v1 v0 q r : Nat} (h1 : 2147483648 ≤ v1) (h2 : v0 < 4294967296) (h : Guess U d v1 v0 q r) (hr : 4294967296 ≤ r) (hq : q ≤ 4294967296) :
    q = (U * 4294967296 + d) / (v1 * 4294967296 + v0) := by
  refine guess_stop h1 h ?_
  have : q * v0 ≤ 4294967296 * v0 := Nat.mul_le_mul_right _ hq
  omega

/-- A digit's product does not wrap. -/
theorem digit_mul {a b : Nat} (ha : a < 4294967296) (hb : b < 4294967296) : a * b < 18446744073709551616 := by
  have : a * b ≤ 4294967295 * 4294967295 := Nat.mul_le_mul (by omega) (by omega)
  omega

theorem len_bounds (y : Nat) (h0 : 0 < y) (h1 : y < 18446744073709551616) : ∃ s : Nat, Lib.bitLen y = 64 - s ∧ s ≤ 63 ∧ 9223372036854775808 ≤ y * 2 ^ s ∧ y * 2 ^ s < 18446744073709551616 := by
  obtain ⟨ha, hb, hc⟩ := Lib.bitLenAux_bounds 64 y h1 (by omega)
  have hl : Lib.bitLenAux 64 y ≤ 64 := by
    rcases Nat.lt_or_ge 64 (Lib.bitLenAux 64 y) with h | h
    · have : 2 ^ 64 ≤ 2 ^ (Lib.bitLenAux 64 y - 1) := Nat.pow_le_pow_right (by decide) (by omega)
      omega
    · exact h
  refine ⟨64 - Lib.bitLenAux 64 y, by unfold Lib.bitLen; omega, by omega, ?_, ?_⟩
  · have : 2 ^ (Lib.bitLenAux 64 y - 1) * 2 ^ (64 - Lib.bitLenAux 64 y) = 2 ^ 63 := by rw [← Nat.pow_add]; congr 1; omega
    have h2 := Nat.mul_le_mul_right (2 ^ (64 - Lib.bitLenAux 64 y)) hb
    omega
  · have : 2 ^ Lib.bitLenAux 64 y * 2 ^ (64 - Lib.bitLenAux 64 y) = 2 ^ 64 := by rw [← Nat.pow_add]; congr 1; omega
    have h2 := Nat.mul_lt_mul_of_pos_right hc (show 0 < 2 ^ (64 - Lib.bitLenAux 64 y) from Nat.pow_pos (by decide))
    omega

/-- The two words, moved to the left: the upper one and the lower one. -/
theorem moved {hi lo y s : Nat} (hs : s ≤ 63) (hl : lo < 18446744073709551616) (hh : hi < y) (hv : y * 2 ^ s < 18446744073709551616) :
    (hi * 2 ^ s + lo / 2 ^ (64 - s)) * 18446744073709551616 + lo * 2 ^ s % 18446744073709551616 = (hi * 18446744073709551616 + lo) * 2 ^ s ∧
    hi * 2 ^ s + lo / 2 ^ (64 - s) < y * 2 ^ s ∧ lo / 2 ^ (64 - s) < 2 ^ s ∧ hi * 2 ^ s < 18446744073709551616 := by
  have hp : 2 ^ (64 - s) * 2 ^ s = 18446744073709551616 := by rw [← Nat.pow_add]; rw [show 64 - s + s = 64 by omega]
  have hps : 0 < 2 ^ s := Nat.pow_pos (by decide)
  have hpt : 0 < 2 ^ (64 - s) := Nat.pow_pos (by decide)
  have hd : lo / 2 ^ (64 - s) < 2 ^ s := by
    rw [Nat.div_lt_iff_lt_mul hpt, Nat.mul_comm, hp]; exact hl
  have hm := Nat.div_add_mod lo (2 ^ (64 - s))
  have hr := Nat.mod_lt lo hpt
  have e1 : lo * 2 ^ s = lo / 2 ^ (64 - s) * 18446744073709551616 + lo % 2 ^ (64 - s) * 2 ^ s := by
    rw [← hp]
    have := congrArg (· * 2 ^ s) hm
    simp only [Nat.add_mul] at this
    rw [← this, Nat.mul_comm (2 ^ (64 - s)) (lo / 2 ^ (64 - s)), Nat.mul_assoc]
  have hr2 := Nat.mul_lt_mul_of_pos_right hr hps
  have e2 : lo * 2 ^ s % 18446744073709551616 = lo % 2 ^ (64 - s) * 2 ^ s := by omega
  have e3 : (hi * 18446744073709551616 + lo) * 2 ^ s = hi * 2 ^ s * 18446744073709551616 + lo * 2 ^ s := by
    rw [Nat.add_mul, Nat.mul_assoc, Nat.mul_comm 18446744073709551616, ← Nat.mul_assoc]
  have h5 : (hi + 1) * 2 ^ s ≤ y * 2 ^ s := Nat.mul_le_mul_right _ hh
  rw [Nat.add_mul, Nat.one_mul] at h5
  exact ⟨by omega, by omega, hd, by omega⟩

theorem two_aux {v a b c e U un1 un0 M : Nat} (hv : 0 < v) (ha : v * a + b = U * 4294967296 + un1) (hb : v * c + e = b * 4294967296 + un0) (hl : e < v)
    (h : U * 18446744073709551616 + (un1 * 4294967296 + un0) = M) : a * 4294967296 + c = M / v ∧ e = M % v := by
  have key : M = v * (a * 4294967296 + c) + e := by
    rw [Nat.mul_add, ← Nat.mul_assoc]
    omega
  rw [key]
  refine ⟨?_, ?_⟩
  · rw [Nat.mul_add_div hv, Nat.div_eq_of_lt hl, Nat.add_zero]
  · rw [Nat.mul_add_mod, Nat.mod_eq_of_lt hl]

set_option maxRecDepth 4000 in
theorem two_digits {N y s U un1 un0 : Nat} (hy : 0 < y) (h : U * 18446744073709551616 + (un1 * 4294967296 + un0) = N * 2 ^ s) (h0 : un0 < 4294967296) :
    (U * 4294967296 + un1) / (y * 2 ^ s) * 4294967296 + ((U * 4294967296 + un1) % (y * 2 ^ s) * 4294967296 + un0) / (y * 2 ^ s) = N / y ∧
    ((U * 4294967296 + un1) % (y * 2 ^ s) * 4294967296 + un0) % (y * 2 ^ s) = N % y * 2 ^ s := by
  have hps : 0 < 2 ^ s := Nat.pow_pos (by decide)
  have hv : 0 < y * 2 ^ s := Nat.mul_pos hy hps
  have ha := Nat.div_add_mod (U * 4294967296 + un1) (y * 2 ^ s)
  have hb := Nat.div_add_mod ((U * 4294967296 + un1) % (y * 2 ^ s) * 4294967296 + un0) (y * 2 ^ s)
  have hl := Nat.mod_lt ((U * 4294967296 + un1) % (y * 2 ^ s) * 4294967296 + un0) hv
  have e1 := (Nat.mul_div_mul_right N y hps)
  have e2 := Nat.mul_mod_mul_right (2 ^ s) N y
  rw [← e1, ← e2]
  exact two_aux hv ha hb hl h

theorem or_add {a b s : Nat} (hb : b < 2 ^ s) : a * 2 ^ s ||| b = a * 2 ^ s + b := by
  rw [← Nat.shiftLeft_eq]
  exact (Nat.shiftLeft_add_eq_or_of_lt hb a).symm
end Go.Proofs.YtopngdjhnljmfaaDoor
