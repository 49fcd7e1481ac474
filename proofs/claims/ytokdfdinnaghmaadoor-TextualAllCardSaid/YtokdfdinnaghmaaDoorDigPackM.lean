/- Plain facts on packed digits. -/
import Derived.Test.YtokdfdinnaghmaaDoorDigM
import Derived.Test.YtokdfdinnaghmaaDoorDigMaskM
namespace Go.Proofs.YtokdfdinnaghmaaDoor
open Go.RowKit

/-- Byte k of the packed form. -/
def pk (l : List UInt8) (k : Nat) : Int :=
  ((l.getD (2 * k) 0).toNat - 48) * 16 + (if 2 * k + 1 < l.length then ((l.getD (2 * k + 1) 0).toNat : Int) - 48 else 15)
/-- The first k bytes of the packed form, as values. -/
def pkTo (l : List UInt8) (k : Nat) : List Value := (List.range k).map fun i => Value.int .u8 (pk l i)
theorem pkTo_length (l : List UInt8) (k : Nat) : (pkTo l k).length = k := by simp [pkTo]
theorem pkTo_succ (l : List UInt8) (k : Nat) : pkTo l (k + 1) = pkTo l k ++ [Value.int .u8 (pk l k)] := by simp [pkTo, List.range_succ]
theorem digit_at {s : ByteArray} (h : numB s.data.toList = true) {k : Nat} (hk : k < s.size) : 48 ≤ (s[k].toNat : Int) ∧ (s[k].toNat : Int) ≤ 57 := by
  simp only [numB, Bool.and_eq_true, List.all_eq_true] at h
  have := h.2 s[k] (by simp [ByteArray.getElem_eq_getElem_data])
  simpa [dgt] using this
theorem num_len {s : ByteArray} (h : numB s.data.toList = true) : 1 ≤ s.size ∧ s.size ≤ 15 := by
  simp only [numB, Bool.and_eq_true, decide_eq_true_eq, len_data] at h
  exact h.1
theorem getD_data (s : ByteArray) (k : Nat) (hk : k < s.size) : s.data.toList.getD k 0 = s[k] := by
  simp [List.getD, hk, ByteArray.getElem_eq_getElem_data]
theorem pk_two {s : ByteArray} {k : Nat} (h : 2 * k + 1 < s.size) : pk s.data.toList k = ((s[2 * k].toNat : Int) - 48) * 16 + ((s[2 * k + 1].toNat : Int) - 48) := by
  unfold pk
  rw [len_data, if_pos h, getD_data _ _ (by omega), getD_data _ _ h]
theorem pk_one {s : ByteArray} {k : Nat} (h : 2 * k < s.size) (h2 : ¬ 2 * k + 1 < s.size) : pk s.data.toList k = ((s[2 * k].toNat : Int) - 48) * 16 + 15 := by
  unfold pk
  rw [len_data, if_neg h2, getD_data _ _ h]
theorem or_pack (a b : Int) (h0 : 0 ≤ a) (h1 : a ≤ 9) (h2 : 0 ≤ b) (h3 : b ≤ 15) : bits BinOp.or IntKind.u8 (a * 16) b = a * 16 + b := by
  obtain ⟨n, rfl⟩ := Int.eq_ofNat_of_zero_le h0
  obtain ⟨m, rfl⟩ := Int.eq_ofNat_of_zero_le h2
  have key : ∀ n : Fin 10, ∀ m : Fin 16, bits BinOp.or IntKind.u8 ((n.val : Int) * 16) (m.val : Int) = (n.val : Int) * 16 + (m.val : Int) := by decide
  exact key ⟨n, by omega⟩ ⟨m, by omega⟩
theorem or_two {s : ByteArray} {k : Nat} (h : numB s.data.toList = true) (h2 : 2 * k + 1 < s.size) :
    bits BinOp.or IntKind.u8 (((s[2 * k].toNat : Int) - 48) * 16) ((s[2 * k + 1].toNat : Int) - 48) = pk s.data.toList k := by
  have a := digit_at h (k := 2 * k) (by omega)
  have b := digit_at h h2
  rw [or_pack _ _ (by omega) (by omega) (by omega) (by omega), pk_two h2]
theorem or_one {s : ByteArray} {k : Nat} (h : numB s.data.toList = true) (h1 : 2 * k < s.size) (h2 : ¬ 2 * k + 1 < s.size) :
    bits BinOp.or IntKind.u8 (((s[2 * k].toNat : Int) - 48) * 16) 15 = pk s.data.toList k := by
  have a := digit_at h h1
  rw [or_pack _ _ (by omega) (by omega) (by omega) (by omega), pk_one h1 h2]
theorem pk_nonneg (s : ByteArray) (h : numB s.data.toList = true) (k : Nat) (hk : 2 * k < s.size) : 0 ≤ pk s.data.toList k ∧ pk s.data.toList k ≤ 255 := by
  have a := digit_at h hk
  by_cases h2 : 2 * k + 1 < s.size
  · have b := digit_at h h2
    rw [pk_two h2]; omega
  · rw [pk_one hk h2]; omega
/-- A row of m bytes of which the first k are packed. -/
def pkRow (l : List UInt8) (m k : Nat) : List Value := pkTo l k ++ List.replicate (m - k) (Value.int .u8 0)
theorem pkRow_zero (l : List UInt8) (m : Nat) : pkRow l m 0 = List.replicate m (Value.int .u8 0) := by simp [pkRow, pkTo]
theorem pkRow_all (l : List UInt8) (m : Nat) : pkRow l m m = pkTo l m := by simp [pkRow]
theorem pkRow_at (l : List UInt8) (m k : Nat) (h : k < m) : (pkRow l m k)[k]? = some (Value.int .u8 0) := by
  unfold pkRow
  rw [List.getElem?_append_right (by rw [pkTo_length]; omega), pkTo_length, Nat.sub_self, List.getElem?_replicate]
  simp; omega
theorem pkRow_set (l : List UInt8) (m k : Nat) (h : k < m) : (pkRow l m k).set k (Value.int .u8 (pk l k)) = pkRow l m (k + 1) := by
  unfold pkRow
  rw [List.set_append_right _ _ (by rw [pkTo_length]; omega), pkTo_length, Nat.sub_self, pkTo_succ, List.append_assoc]
  congr 1
  have e : m - k = (m - (k + 1)) + 1 := by omega
  rw [e, List.replicate_succ, List.set_cons_zero]; rfl
theorem made_bytes (m : Nat) : (madeCells (Value.int IntKind.u8 0).cells (m * 1)).toList = List.replicate m (Value.int IntKind.u8 0) := by
  rw [Nat.mul_one]
  apply List.ext_getElem
  · simp [madeCells]
  · intro i h1 h2
    simp [madeCells, Value.cells, Nat.mod_one]
end Go.Proofs.YtokdfdinnaghmaaDoor
