/- Plain facts on masking, and strings as lists of bytes. -/
import Derived.WalkKit
import Derived.ProofKit
import Derived.Lib.Hide
import Derived.WalkLawsBesides
import Derived.Lib.Strings
import Derived.Lib.Repeat
import Derived.Lib.IndexBytes
namespace Go.Proofs.YtokdfdinnaghmaaDoor
open Go.RowKit

/-- A list of bytes as a string. -/
def S (l : List UInt8) : ByteArray := ⟨l.toArray⟩
theorem S_size (l : List UInt8) : (S l).size = l.length := by show l.toArray.size = _; simp
theorem S_toList (l : List UInt8) : (S l).data.toList = l := rfl
theorem S_of (s : ByteArray) : S s.data.toList = s := by cases s; rfl
theorem S_append (a b : List UInt8) : S a ++ S b = S (a ++ b) := by unfold S; rw [ByteArray.mk_append_mk]
theorem append_S (a b : ByteArray) : a ++ b = S (a.data.toList ++ b.data.toList) := by
  rw [← S_append, S_of, S_of]
theorem S_extract (s : ByteArray) (a b : Nat) : s.extract a b = S ((s.data.toList.drop a).take (b - a)) := by
  rw [← Lib.extract_data, S_of]
theorem ret_str {a b : ByteArray} (h : a = b) : Ending.returned (.string a) = .returned (.string b) := by rw [h]

/-- One byte of a string, as a cut of it: in the walk's spelling. -/
theorem slice_one {P : Program} (w : World) (t : TypeId) (s : ByteArray) (k : Nat) (h : P.underlying t = some .string) (hk : k < s.size) :
    (Instr.slice t (.string s) (some (.int .i64 (k : Int))) (some (.int .i64 ((k : Int) + 1))) none).run P w = .ok (.string (s.extract k (k + 1))) w := by
  have e1 : ((k : Int)).toNat = k := by omega
  have e2 : ((k : Int) + 1).toNat = k + 1 := by omega
  rw [run_slice_string w t s _ _ _ _ h (by omega) (by omega) (by omega), e1, e2]

/-- The first n bytes of l; an x in place of each other. -/
def maskL (l : List UInt8) (n : Nat) : List UInt8 := l.take n ++ List.replicate (l.length - n) 120
/-- The same after k bytes. -/
def maskTo (l : List UInt8) (n k : Nat) : List UInt8 := (l.take k).take n ++ List.replicate (k - n) 120
theorem maskTo_zero (l : List UInt8) (n : Nat) : maskTo l n 0 = [] := by simp [maskTo]
theorem maskTo_all (l : List UInt8) (n : Nat) : maskTo l n l.length = maskL l n := by simp [maskTo, maskL]
theorem maskTo_length (l : List UInt8) (n k : Nat) (h : k ≤ l.length) : (maskTo l n k).length ≤ k := by
  simp [maskTo]; omega
theorem maskTo_low (l : List UInt8) (n k : Nat) (h : k < l.length) (hn : k < n) : maskTo l n k ++ (l.drop k).take 1 = maskTo l n (k + 1) := by
  have e1 : k - n = 0 := by omega
  have e2 : k + 1 - n = 0 := by omega
  simp only [maskTo, e1, e2, List.replicate_zero, List.append_nil]
  rw [List.take_of_length_le (l := l.take k) (by simp; omega), List.take_of_length_le (l := l.take (k + 1)) (by simp; omega), List.take_add]
theorem maskTo_high (l : List UInt8) (n k : Nat) (h : k < l.length) (hn : n ≤ k) : maskTo l n k ++ [120] = maskTo l n (k + 1) := by
  have e2 : k + 1 - n = (k - n) + 1 := by omega
  simp only [maskTo, e2, List.replicate_succ', ← List.append_assoc]
  rw [List.take_take, List.take_take, Nat.min_eq_left hn, Nat.min_eq_left (by omega)]
theorem repeat_x (n : Nat) : Lib.repeatL [120] n = List.replicate n 120 := by
  have := Lib.repeatL_replicate 120 1 n
  simpa using this
theorem maskL_min (l : List UInt8) (n m : Nat) (h : m = min n l.length) : maskL l n = l.take m ++ List.replicate (l.length - m) 120 := by
  subst h
  unfold maskL
  by_cases h : n ≤ l.length
  · rw [Nat.min_eq_left h]
  · rw [Nat.min_eq_right (by omega), List.take_of_length_le (i := n) (by omega), List.take_of_length_le (Nat.le_refl _)]
    congr 2; omega
end Go.Proofs.YtokdfdinnaghmaaDoor
