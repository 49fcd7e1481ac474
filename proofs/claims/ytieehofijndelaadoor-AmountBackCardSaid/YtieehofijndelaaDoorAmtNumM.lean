/- Plain facts: the decimal text of a number, and the text of an amount. -/
import Derived.Test.YtieehofijndelaaDoorAmtTxtM
namespace Go.Proofs.YtieehofijndelaaDoor
open Go.RowKit

/-- The last k digits of n, the least n / 10 ^ k of which is left. -/
def lastD (n : Int) : Nat → List UInt8
  | 0 => []
  | k + 1 => lastD (n / 10) k ++ [b8 (48 + n % 10)]
theorem lastD_length : ∀ (k : Nat) (n : Int), (lastD n k).length = k
  | 0, _ => rfl
  | k + 1, n => by simp [lastD, lastD_length k]
/-- Digits are the last ones. -/
theorem div_pow (m : Int) (j : Nat) : m / (10 : Int) ^ (j + 1) = m / 10 / 10 ^ j := by
  rw [Int.pow_succ, Int.mul_comm, Int.ediv_ediv_of_nonneg (by decide)]
theorem dgs_last (m : Int) : ∀ (k e : Nat), k + e ≤ 19 → dgs m (19 - e - k) (19 - e) = lastD (m / (10 : Int) ^ e) k
  | 0, e, _ => by simp [dgs, lastD]
  | k + 1, e, h => by
    have ih := dgs_last m k (e + 1) (by omega)
    have e1 : 19 - (e + 1) - k = 19 - e - (k + 1) := by omega
    rw [e1] at ih
    have hp : m / (10 : Int) ^ (e + 1) = m / 10 ^ e / 10 := by
      rw [Int.pow_succ, Int.ediv_ediv_of_nonneg (Int.le_of_lt (Int.pow_pos (by decide)))]
    rw [hp] at ih
    simp only [lastD]
    rw [← ih]
    unfold dgs
    have e2 : 19 - e - (19 - e - (k + 1)) = (19 - (e + 1) - (19 - e - (k + 1))) + 1 := by omega
    rw [e2, List.range_succ, List.map_append]
    congr 1
    simp only [List.map_cons, List.map_nil, List.cons.injEq, and_true]
    have e3 : 19 - e - (k + 1) + (19 - (e + 1) - (19 - e - (k + 1))) = 18 - e := by omega
    rw [e3]
    unfold dg
    rw [show 18 - (18 - e) = e from by omega]
theorem lastD_add (a : Nat) : ∀ (b : Nat) (n : Int), lastD n (a + b) = lastD (n / (10 : Int) ^ b) a ++ lastD n b
  | 0, n => by simp [lastD]
  | b + 1, n => by
    show lastD (n / 10) (a + b) ++ _ = _
    rw [lastD_add a b (n / 10), div_pow]
    simp [lastD]
theorem lastD_mod : ∀ (k : Nat) (n c : Int), lastD (n + (10 : Int) ^ k * c) k = lastD n k
  | 0, _, _ => rfl
  | k + 1, n, c => by
    simp only [lastD]
    have e : n + (10 : Int) ^ (k + 1) * c = n + 10 * (10 ^ k * c) := by
      rw [Int.pow_succ, Int.mul_comm ((10 : Int) ^ k) 10, Int.mul_assoc]
    have h1 : (n + (10 : Int) ^ (k + 1) * c) / 10 = n / 10 + 10 ^ k * c := by rw [e]; omega
    have h2 : (n + (10 : Int) ^ (k + 1) * c) % 10 = n % 10 := by rw [e]; omega
    rw [h1, h2, lastD_mod k]
/-- n, not negative, has j digits. -/
def IsLen (n : Int) (j : Nat) : Prop := 1 ≤ j ∧ n / (10 : Int) ^ j = 0 ∧ (1 < j → 0 < n / (10 : Int) ^ (j - 1))
theorem div_zero_up {n : Int} {i j : Nat} (h : n / (10 : Int) ^ i = 0) (hij : i ≤ j) : n / (10 : Int) ^ j = 0 := by
  have e : j = i + (j - i) := by omega
  rw [e, Int.pow_add, ← Int.ediv_ediv_of_nonneg (Int.le_of_lt (Int.pow_pos (by decide))), h, Int.zero_ediv]
theorem isLen_one {n : Int} {i j : Nat} (h : IsLen n i) (h2 : IsLen n j) : i = j := by
  rcases Nat.lt_trichotomy i j with hlt | rfl | hlt
  · have := h2.2.2 (by have := h.1; omega)
    rw [div_zero_up h.2.1 (show i ≤ j - 1 by omega)] at this
    omega
  · rfl
  · have := h.2.2 (by have := h2.1; omega)
    rw [div_zero_up h2.2.1 (show j ≤ i - 1 by omega)] at this
    omega
theorem lead_zero {m : Int} {f : Nat} (h0 : 0 ≤ m) (h1 : m < 10000000000000000000) (h : Lead m f) : ∀ i, i ≤ f → m / (10 : Int) ^ (19 - i) = 0
  | 0, _ => by
    have : (10 : Int) ^ (19 - 0) = 10000000000000000000 := by decide
    rw [this]; omega
  | i + 1, hi => by
    have ih := lead_zero h0 h1 h i (by omega)
    have hd := h.2.1 i (by omega)
    unfold dg at hd
    have e : 19 - i = (18 - i) + 1 := by have := h.1; omega
    rw [e, Int.pow_succ, ← Int.ediv_ediv_of_nonneg (Int.le_of_lt (Int.pow_pos (by decide)))] at ih
    rw [show 19 - (i + 1) = 18 - i from by omega]
    omega
theorem lead_len {m : Int} {f : Nat} (h0 : 0 ≤ m) (h1 : m < 10000000000000000000) (h : Lead m f) : IsLen (m / 10000) (15 - f) := by
  have hf := h.1
  have e4 : ∀ j : Nat, m / 10000 / (10 : Int) ^ j = m / (10 : Int) ^ (4 + j) := by
    intro j
    rw [Int.pow_add, ← Int.ediv_ediv_of_nonneg (by decide)]
    rfl
  refine ⟨by omega, ?_, fun hj => ?_⟩
  · rw [e4, show 4 + (15 - f) = 19 - f from by omega]
    exact lead_zero h0 h1 h f (Nat.le_refl _)
  · rw [e4, show 4 + (15 - f - 1) = 18 - f from by omega]
    have hd := h.2.2 (by omega)
    unfold dg at hd
    have hn : 0 ≤ m / (10 : Int) ^ (18 - f) := Int.ediv_nonneg h0 (Int.le_of_lt (Int.pow_pos (by decide)))
    omega
theorem dgs_quo (m : Int) (f : Nat) (h : f ≤ 14) : dgs m f 15 = lastD (m / 10000) (15 - f) := by
  have := dgs_last m (15 - f) 4 (by omega)
  rw [show 19 - 4 - (15 - f) = f from by omega, show 19 - 4 = 15 from rfl] at this
  rw [this]; rfl
theorem dgs_fra (m : Int) : dgs m 15 19 = lastD m 4 := by
  have := dgs_last m 4 0 (by omega)
  simpa using this
/-- The text as the reference makes it. -/
theorem text_ref {a m : Int} {f j i : Nat} (h0 : 0 ≤ m) (h1 : m < 10000000000000000000) (h : Lead m f) (hj : IsLen (m / 10000) j) (hi : IsLen (10000 + m % 10000) i) :
    textL a m f = (if a < 0 then [45] else []) ++ (lastD (m / 10000) j ++ [46] ++ (lastD (10000 + m % 10000) i).drop 1) := by
  have ej : 15 - f = j := isLen_one (lead_len h0 h1 h) hj
  have ei : i = 5 := isLen_one hi ⟨by omega, by show _ / 100000 = 0; omega, fun _ => by show 0 < _ / 10000; omega⟩
  subst ei
  unfold textL
  rw [dgs_quo m f h.1, ej, dgs_fra]
  have e5 : lastD (10000 + m % 10000) 5 = lastD ((10000 + m % 10000) / 10000) 1 ++ lastD (10000 + m % 10000) 4 := lastD_add 1 4 _
  have h6 : lastD (10000 + m % 10000) 4 = lastD (m % 10000) 4 := by
    have := lastD_mod 4 (m % 10000) 1
    rw [show m % 10000 + (10 : Int) ^ 4 * 1 = 10000 + m % 10000 from by show m % 10000 + 10000 * 1 = _; omega] at this
    exact this
  have h7 : lastD m 4 = lastD (m % 10000) 4 := by
    have := lastD_mod 4 (m % 10000) (m / 10000)
    rw [show m % 10000 + (10 : Int) ^ 4 * (m / 10000) = m from by show m % 10000 + 10000 * (m / 10000) = _; omega] at this
    exact this
  have h8 : (lastD ((10000 + m % 10000) / 10000) 1).length = 1 := lastD_length _ _
  rw [e5, List.drop_append_of_le_length (by omega), List.drop_of_length_le (by omega), List.nil_append, h6, h7]
end Go.Proofs.YtieehofijndelaaDoor
