/- Plain facts on strings of decimal digits, lists of bytes and the forms of the walk; nothing of the program. -/
import Derived.WalkKit
import Derived.ProofKit
import Derived.Lib.Hide
import Derived.WalkLawsBesides
namespace Go.Proofs.Ytcjceecdcjjnfaa
open Go.RowKit

/-- A byte is a decimal digit. -/
def dgt (c : UInt8) : Bool := decide (48 ≤ (c.toNat : Int)) && decide ((c.toNat : Int) ≤ 57)
/-- A number of a telephone. -/
def numB (l : List UInt8) : Bool := decide (1 ≤ l.length) && decide (l.length ≤ 15) && l.all dgt

theorem ret_int {k : IntKind} {a b : Int} (h : a = b) : Ending.returned (.int k a) = .returned (.int k b) := by rw [h]
theorem ret_bool {a b : Bool} (h : a = b) : Ending.returned (.bool a) = .returned (.bool b) := by rw [h]

theorem take_snoc (s : ByteArray) (k : Nat) (h : k < s.size) : s.data.toList.take (k + 1) = s.data.toList.take k ++ [s[k]] := by
  rw [List.take_succ_eq_append_getElem (by simpa using h)]; rfl
theorem all_snoc (p : UInt8 → Bool) (l : List UInt8) (c : UInt8) : (l ++ [c]).all p = (l.all p && p c) := by simp

theorem all_not {s : ByteArray} {k : Nat} (h : k < s.size) (hc : dgt s[k] = false) : s.data.toList.all dgt = false := by
  rw [List.all_eq_false]
  exact ⟨s[k], by simp [ByteArray.getElem_eq_getElem_data], by simp [hc]⟩
theorem len_data (s : ByteArray) : s.data.toList.length = s.size := by simp
theorem take_all (s : ByteArray) : s.data.toList.take s.size = s.data.toList := List.take_of_length_le (by simp)
theorem dgt_mk {c : UInt8} (h1 : 48 ≤ (c.toNat : Int)) (h2 : (c.toNat : Int) ≤ 57) : dgt c = true := by simp [dgt]; omega
theorem dgt_lo {c : UInt8} (h1 : (c.toNat : Int) < 48) : dgt c = false := by simp [dgt]; omega
theorem dgt_hi {c : UInt8} (h1 : 57 < (c.toNat : Int)) : dgt c = false := by simp [dgt]; omega
theorem num_hi {s : ByteArray} (h : s.data.toList.all dgt = true) (h1 : 1 ≤ (s.size : Int)) : decide ((s.size : Int) ≤ 15) = numB s.data.toList := by
  have e : decide (1 ≤ s.data.toList.length) = true := by rw [len_data]; exact decide_eq_true (by omega)
  simp only [numB, h, Bool.and_true, len_data]
  rw [Bool.eq_iff_iff]; simp; omega
theorem num_empty {s : ByteArray} (h1 : (s.size : Int) < 1) : numB s.data.toList = false := by
  have e : decide (1 ≤ s.data.toList.length) = false := by rw [len_data]; exact decide_eq_false (by omega)
  simp only [numB, e, Bool.false_and]
theorem num_long {s : ByteArray} (h1 : 15 < (s.size : Int)) : numB s.data.toList = false := by
  have e : decide (s.data.toList.length ≤ 15) = false := by rw [len_data]; exact decide_eq_false (by omega)
  simp only [numB, e, Bool.false_and, Bool.and_false]
theorem num_yes {s : ByteArray} (h : s.data.toList.all dgt = true) (h1 : 1 ≤ (s.size : Int)) (h2 : (s.size : Int) ≤ 15) : numB s.data.toList = true := by
  rw [← num_hi h h1]; simpa using h2
end Go.Proofs.Ytcjceecdcjjnfaa
