/- Plain facts on the parts of a text. -/
import Derived.Test.YtopngdjhnljmfaaDoorAmtM
import Derived.Test.YtopngdjhnljmfaaDoorAmtTxtM
import Derived.Lib.Strings
import Derived.Lib.IndexBytes
namespace Go.Proofs.YtopngdjhnljmfaaDoor
open Go.RowKit

/-- A byte is a decimal digit. -/
def dgt (c : UInt8) : Bool := decide (48 ≤ (c.toNat : Int)) && decide ((c.toNat : Int) ≤ 57)
theorem take_snoc (s : ByteArray) (k : Nat) (h : k < s.size) : s.data.toList.take (k + 1) = s.data.toList.take k ++ [s[k]] := by
  rw [List.take_succ_eq_append_getElem (by simpa using h)]; rfl
theorem all_snoc (p : UInt8 → Bool) (l : List UInt8) (c : UInt8) : (l ++ [c]).all p = (l.all p && p c) := by simp
theorem all_not {s : ByteArray} {k : Nat} (h : k < s.size) (hc : dgt s[k] = false) : s.data.toList.all dgt = false := by
  rw [List.all_eq_false]
  exact ⟨s[k], by simp [ByteArray.getElem_eq_getElem_data], by simp [hc]⟩
theorem len_data (s : ByteArray) : s.data.toList.length = s.size := by simp
theorem take_all (s : ByteArray) : s.data.toList.take s.size = s.data.toList := List.take_of_length_le (by simp)
theorem dgt_mk {c : UInt8} (h1 : 48 ≤ (c.toNat : Int)) (h2 : (c.toNat : Int) ≤ 57) : dgt c = true := by simp [dgt]; omega
theorem dgt_lo {c : UInt8} (h1 : (c.toNat : Int) < 48) : dgt c = false := by simp [dgt]; omega
theorem dgt_hi {c : UInt8} (h1 : 57 < (c.toNat : Int)) : dgt c = false := by simp [dgt]; omega
/-- Nothing but digits. -/
def allD (l : List UInt8) : Bool := l.all dgt
/-- What may stand in front of the point. -/
def quoB (l : List UInt8) : Bool := l == [48] || (allD l && !l.isEmpty && !(l.head? == some 48))
/-- What may stand behind it. -/
def fraB (l : List UInt8) : Bool := decide (l.length = 4) && allD l
theorem toList_eq (s : ByteArray) : s.toList = s.data.toList := Lib.toList_data s
end Go.Proofs.YtopngdjhnljmfaaDoor
