/- Plain facts on the texts of dates; nothing of the program. -/
import Derived.Test.YtigohhliblgdhaaDoorCalM
import Derived.Lib.Strings
import Derived.Lib.ItoaMem
namespace Go.Proofs.YtigohhliblgdhaaDoor
open Go.RowKit

/-- A list of bytes as a string. -/
def S (l : List UInt8) : ByteArray := ⟨l.toArray⟩
theorem S_size (l : List UInt8) : (S l).size = l.length := by show l.toArray.size = _; simp
theorem S_toList (l : List UInt8) : (S l).data.toList = l := rfl
theorem S_of (s : ByteArray) : S s.data.toList = s := by cases s; rfl
theorem S_append (a b : List UInt8) : S a ++ S b = S (a ++ b) := by unfold S; rw [ByteArray.mk_append_mk]
theorem ret_str {a b : ByteArray} (h : a = b) : Ending.returned (.string a) = .returned (.string b) := by rw [h]
/-- A small number as a byte. -/
def b8 (i : Int) : UInt8 := UInt8.ofNat i.toNat
theorem b8_toNat {i : Int} (h0 : 0 ≤ i) (h1 : i ≤ 255) : ((b8 i).toNat : Int) = i := by
  unfold b8
  rw [UInt8.toNat_ofNat', Nat.mod_eq_of_lt (by omega)]; omega
theorem b8_of (c : UInt8) : b8 (c.toNat : Int) = c := by unfold b8; simp

/-- The last k digits of n. -/
def lastD (n : Int) : Nat → List UInt8
  | 0 => []
  | k + 1 => lastD (n / 10) k ++ [b8 (48 + n % 10)]
theorem lastD_length : ∀ (k : Nat) (n : Int), (lastD n k).length = k
  | 0, _ => rfl
  | k + 1, n => by simp [lastD, lastD_length k]
theorem lastD_cons (n : Int) (j : Nat) : lastD n (j + 1) = b8 (48 + n / (10 : Int) ^ j % 10) :: lastD n j := by
  induction j generalizing n with
  | zero => simp [lastD]
  | succ j ih =>
    rw [lastD, ih, lastD, List.cons_append]
    congr 3
    rw [Int.pow_succ, Int.mul_comm, Int.ediv_ediv_of_nonneg (by decide)]
theorem lastD_two (n : Int) (h : 0 ≤ n) (h2 : n ≤ 99) : lastD n 2 = [b8 (48 + n / 10), b8 (48 + n % 10)] := by
  simp only [lastD, List.nil_append, List.cons_append]
  rw [show n / 10 % 10 = n / 10 by omega]
/-- The text of a date. -/
def datT (y m d : Int) : List UInt8 := lastD y 4 ++ [45] ++ lastD m 2 ++ [45] ++ lastD d 2
theorem datT_length (y m d : Int) : (datT y m d).length = 10 := by simp [datT, lastD_length]
theorem itoa_year (y : Int) (h : 1000 ≤ y) (h2 : y ≤ 9999) : Lib.itoa y = lastD y 4 := by
  obtain ⟨u, rfl⟩ : ∃ u : Nat, y = (u : Int) := ⟨y.toNat, by omega⟩
  rw [Lib.itoa_nonneg, Lib.decDigits, dif_neg (by omega), Lib.decDigits, dif_neg (by omega), Lib.decDigits, dif_neg (by omega), Lib.decDigits, dif_pos (by omega)]
  simp only [lastD, List.nil_append, b8]
  have e1 : (48 + (u : Int) / 10 / 10 / 10 % 10).toNat = 48 + u / 10 / 10 / 10 := by omega
  have e2 : (48 + (u : Int) / 10 / 10 % 10).toNat = 48 + u / 10 / 10 % 10 := by omega
  have e3 : (48 + (u : Int) / 10 % 10).toNat = 48 + u / 10 % 10 := by omega
  have e4 : (48 + (u : Int) % 10).toNat = 48 + u % 10 := by omega
  rw [e1, e2, e3, e4]

def dgt (c : UInt8) : Bool := decide (48 ≤ (c.toNat : Int)) && decide ((c.toNat : Int) ≤ 57)
theorem dgt_iff {c : UInt8} : dgt c = true ↔ 48 ≤ (c.toNat : Int) ∧ (c.toNat : Int) ≤ 57 := by simp [dgt]
theorem dgt_no {c : UInt8} (h : dgt c = false) : (c.toNat : Int) < 48 ∨ (¬ (c.toNat : Int) < 48 ∧ 57 < (c.toNat : Int)) := by
  have : ¬ (48 ≤ (c.toNat : Int) ∧ (c.toNat : Int) ≤ 57) := fun h2 => by rw [dgt_iff.2 h2] at h; cases h
  omega
/-- The number that digits denote. -/
def numL (l : List UInt8) : Int := l.foldl (fun n c => 10 * n + ((c.toNat : Int) - 48)) 0
theorem numL_snoc (l : List UInt8) (c : UInt8) : numL (l ++ [c]) = 10 * numL l + ((c.toNat : Int) - 48) := by simp [numL]
theorem numL_bd (l : List UInt8) (h : l.all dgt = true) : 0 ≤ numL l ∧ numL l < 10 ^ l.length := by
  rcases List.eq_nil_or_concat l with rfl | ⟨i, c, rfl⟩
  · simp [numL]
  · have ih := numL_bd i (by simp at h ⊢; exact h.1)
    have hc : dgt c = true := by simp at h; exact h.2
    rw [dgt_iff] at hc
    rw [List.concat_eq_append] at *
    rw [numL_snoc, List.length_append, List.length_singleton, Int.pow_succ]
    omega
termination_by l.length
decreasing_by simp_all
theorem numL_lastD (n : Int) (k : Nat) : numL (lastD n k) = n % (10 : Int) ^ k := by
  induction k generalizing n with
  | zero => simp [lastD, numL]
  | succ k ih =>
    rw [lastD, numL_snoc, ih, b8_toNat (by omega) (by omega)]
    have h1 := Int.emod_add_mul_ediv n 10
    have h2 := Int.emod_add_mul_ediv (n / 10) ((10 : Int) ^ k)
    have h3 : n / 10 / (10 : Int) ^ k = n / (10 : Int) ^ (k + 1) := by rw [Int.pow_succ, Int.mul_comm, Int.ediv_ediv_of_nonneg (by decide)]
    have h4 := Int.emod_add_mul_ediv n ((10 : Int) ^ (k + 1))
    rw [h3] at h2
    have h6 : (10 : Int) ^ (k + 1) * (n / (10 : Int) ^ (k + 1)) = 10 * ((10 : Int) ^ k * (n / (10 : Int) ^ (k + 1))) := by
      rw [Int.pow_succ, Int.mul_comm ((10 : Int) ^ k) 10, Int.mul_assoc]
    rw [h6] at h4
    omega
theorem lastD_dgt (n : Int) (k : Nat) : (lastD n k).all dgt = true := by
  induction k generalizing n with
  | zero => rfl
  | succ k ih =>
    rw [lastD, List.all_append, ih]
    simp only [List.all_cons, List.all_nil, Bool.and_true, Bool.true_and]
    rw [dgt_iff, b8_toNat (by omega) (by omega)]
    omega
theorem lastD_numL (l : List UInt8) (h : l.all dgt = true) : lastD (numL l) l.length = l := by
  rcases List.eq_nil_or_concat l with rfl | ⟨i, c, rfl⟩
  · rfl
  · have ih := lastD_numL i (by simp at h ⊢; exact h.1)
    have hc : dgt c = true := by simp at h; exact h.2
    rw [dgt_iff] at hc
    rw [List.concat_eq_append] at *
    rw [numL_snoc, List.length_append, List.length_singleton, lastD]
    rw [show (10 * numL i + ((c.toNat : Int) - 48)) / 10 = numL i by omega, show 48 + (10 * numL i + ((c.toNat : Int) - 48)) % 10 = (c.toNat : Int) by omega, ih, b8_of]
termination_by l.length
decreasing_by simp_all
end Go.Proofs.YtigohhliblgdhaaDoor
