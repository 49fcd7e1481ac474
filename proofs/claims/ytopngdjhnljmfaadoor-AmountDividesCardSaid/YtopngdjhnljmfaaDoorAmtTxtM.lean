/- Plain facts on the digits of a number. -/
import Derived.Test.YtopngdjhnljmfaaDoorAmtM
import Derived.Lib.Strings
namespace Go.Proofs.YtopngdjhnljmfaaDoor
open Go.RowKit

/-- A list of bytes as a string. -/
def S (l : List UInt8) : ByteArray := ⟨l.toArray⟩
theorem S_size (l : List UInt8) : (S l).size = l.length := by show l.toArray.size = _; simp
theorem S_toList (l : List UInt8) : (S l).data.toList = l := rfl
theorem S_of (s : ByteArray) : S s.data.toList = s := by cases s; rfl
theorem S_append (a b : List UInt8) : S a ++ S b = S (a ++ b) := by unfold S; rw [ByteArray.mk_append_mk]
theorem ret_str {a b : ByteArray} (h : a = b) : Ending.returned (.string a) = .returned (.string b) := by rw [h]

/-- The table of powers, and what the program holds of it. -/
def Pows (w : World) : Prop := ∀ i : Nat, i < 19 → w.cell? ⟨0, i, none⟩ = some (.int .u64 ((10 : Int) ^ i))
theorem Pows.below {w w' : World} (h : Pows w) (hz : 0 < w.heap.size) (hb : Below w.heap.size w w') : Pows w' := fun i hi => (hb.cell (p := ⟨0, i, none⟩) hz).trans (h i hi)
theorem pow_pos' (i : Nat) (h : i < 19) : 1 ≤ (10 : Int) ^ i ∧ (10 : Int) ^ i ≤ 1000000000000000000 := by
  have key : ∀ i : Fin 19, 1 ≤ (10 : Int) ^ i.val ∧ (10 : Int) ^ i.val ≤ 1000000000000000000 := by decide
  exact key ⟨i, h⟩

/-- Digit i of the nineteen digits of m. -/
def dg (m : Int) (i : Nat) : Int := m / (10 : Int) ^ (18 - i) % 10
theorem dg_range (m : Int) (i : Nat) : 0 ≤ dg m i ∧ dg m i ≤ 9 := by unfold dg; omega
/-- The row of the digits, k of which are laid. -/
def dgRow (m : Int) (k : Nat) : List Value := (List.range k).map (fun i => Value.int .u8 (48 + dg m i)) ++ List.replicate (19 - k) (Value.int .u8 0)
theorem dgRow_length (m : Int) (k : Nat) (h : k ≤ 19) : (dgRow m k).length = 19 := by simp [dgRow]; omega
theorem dgRow_at (m : Int) (k : Nat) (h : k < 19) : (dgRow m k)[k]? = some (Value.int .u8 0) := by
  unfold dgRow
  rw [List.getElem?_append_right (by simp)]
  simp [List.getElem?_replicate]; omega
theorem dgRow_set (m : Int) (k : Nat) (h : k < 19) : (dgRow m k).set k (Value.int .u8 (48 + dg m k)) = dgRow m (k + 1) := by
  unfold dgRow
  rw [List.set_append_right _ _ (by simp)]
  have e : 19 - k = (19 - (k + 1)) + 1 := by omega
  rw [e, List.length_map, List.length_range, Nat.sub_self, List.replicate_succ, List.set_cons_zero, List.range_succ, List.map_append, List.append_assoc]
  rfl
theorem dgRow_all (m : Int) (i : Nat) (h : i < 19) : (dgRow m 19)[i]? = some (Value.int .u8 (48 + dg m i)) := by
  simp [dgRow, List.getElem?_map, List.getElem?_range h]

/-- A small number as a byte. -/
def b8 (i : Int) : UInt8 := UInt8.ofNat i.toNat
theorem b8_toNat {i : Int} (h0 : 0 ≤ i) (h1 : i ≤ 255) : ((b8 i).toNat : Int) = i := by
  unfold b8
  rw [UInt8.toNat_ofNat', Nat.mod_eq_of_lt (by omega)]; omega
/-- Digits a to b - 1 of m. -/
def dgs (m : Int) (a b : Nat) : List UInt8 := (List.range (b - a)).map fun i => b8 (48 + dg m (a + i))
theorem dgs_length (m : Int) (a b : Nat) : (dgs m a b).length = b - a := by simp [dgs]

/-- Zeros in front: the first digit that is written. -/
def Lead (m : Int) (f : Nat) : Prop := f ≤ 14 ∧ (∀ i, i < f → dg m i = 0) ∧ (f < 14 → dg m f ≠ 0)
/-- The text of an amount, with its sign. -/
def textL (a : Int) (m : Int) (f : Nat) : List UInt8 := (if a < 0 then [45] else []) ++ (dgs m f 15 ++ [46] ++ dgs m 15 19)
theorem dg_walk {m p d : Int} (hm : 0 ≤ m) (hp : 1 ≤ p) (h : m / p % 10 = d) (h2 : 0 ≤ d ∧ d ≤ 9) : (48 + (m / p).tmod 10) % 256 = 48 + d := by
  have h3 : 0 ≤ m / p := Int.ediv_nonneg hm (by omega)
  rw [Int.tmod_eq_emod_of_nonneg h3, h]; omega
end Go.Proofs.YtopngdjhnljmfaaDoor
