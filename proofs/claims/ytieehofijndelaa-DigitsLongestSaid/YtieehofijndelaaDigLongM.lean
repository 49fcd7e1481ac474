/- Plain facts on the longest prefix. -/
import Derived.Test.YtieehofijndelaaDigM
import Derived.Test.YtieehofijndelaaDigMaskM
import Derived.Below
namespace Go.Proofs.Ytieehofijndelaa
open Go.RowKit

/-- The first n cells from A on are the strings ps. -/
def Strs (w : World) (A : Option Addr) (n : Nat) (ps : List ByteArray) : Prop :=
  ps.length = n ∧ ∀ k, k < n → ∃ b off, A = some ⟨b, off, none⟩ ∧ b < w.heap.size ∧ w.cell? ⟨b, off + k, none⟩ = some (.string (ps[k]?.getD ByteArray.empty))
theorem Strs.below {w w' : World} {A : Option Addr} {n : Nat} {ps : List ByteArray} (h : Strs w A n ps) (hb : Below w.heap.size w w') : Strs w' A n ps :=
  ⟨h.1, fun k hk => by
    obtain ⟨b, off, e, hbl, hc⟩ := h.2 k hk
    exact ⟨b, off, e, Nat.lt_of_lt_of_le hbl hb.size, (hb.cell (p := ⟨b, off + k, none⟩) hbl).trans hc⟩⟩
/-- The step of the search: position and length so far. -/
def longStep (s q : ByteArray) (k : Nat) (r : Int × Int) : Int × Int :=
  if decide (r.2 < (q.size : Int)) && Lib.hasPrefix s.data.toList q.data.toList then ((k : Int), (q.size : Int)) else r
/-- Position and length of the longest prefix among the first k. -/
def longTo (s : ByteArray) (ps : List ByteArray) : Nat → Int × Int
  | 0 => (-1, -1)
  | k + 1 => longStep s (ps[k]?.getD ByteArray.empty) k (longTo s ps k)
theorem longTo_bounds (s : ByteArray) (ps : List ByteArray) : ∀ k, -1 ≤ (longTo s ps k).1 ∧ (longTo s ps k).1 ≤ k ∧ -1 ≤ (longTo s ps k).2
  | 0 => by simp [longTo]
  | k + 1 => by
    have h := longTo_bounds s ps k
    simp only [longTo, longStep]
    split <;> simp <;> omega
theorem longStep_hit {s q : ByteArray} {k : Nat} {r : Int × Int} (h1 : r.2 < (q.size : Int)) (h2 : Lib.hasPrefix s.data.toList q.data.toList = true) : longStep s q k r = ((k : Int), (q.size : Int)) := by
  simp [longStep, h1, h2]
theorem longStep_short {s q : ByteArray} {k : Nat} {r : Int × Int} (h1 : ¬ r.2 < (q.size : Int)) : longStep s q k r = r := by simp [longStep, h1]
theorem longStep_miss {s q : ByteArray} {k : Nat} {r : Int × Int} (h2 : Lib.hasPrefix s.data.toList q.data.toList = false) : longStep s q k r = r := by simp [longStep, h2]
/-- Position and length hang together. -/
theorem longTo_inv (s : ByteArray) (ps : List ByteArray) : ∀ k, (longTo s ps k = (-1, -1)) ∨ ∃ j : Nat, j < k ∧ longTo s ps k = ((j : Int), ((ps[j]?.getD ByteArray.empty).size : Int))
  | 0 => .inl rfl
  | k + 1 => by
    simp only [longTo, longStep]
    split
    · exact .inr ⟨k, by omega, rfl⟩
    · rcases longTo_inv s ps k with h | ⟨j, hj, h⟩
      · exact .inl h
      · exact .inr ⟨j, by omega, h⟩
/-- One more prefix at the end. -/
theorem longTo_more (s : ByteArray) (ps : List ByteArray) (q : ByteArray) : ∀ k, k ≤ ps.length → longTo s (ps ++ [q]) k = longTo s ps k
  | 0, _ => rfl
  | k + 1, h => by
    have e : (ps ++ [q])[k]? = ps[k]? := List.getElem?_append_left (by omega)
    simp only [longTo, e, longTo_more s ps q k (by omega)]
theorem longTo_last (s : ByteArray) (ps : List ByteArray) (q : ByteArray) : longTo s (ps ++ [q]) (ps.length + 1) = longStep s q ps.length (longTo s ps ps.length) := by
  have e : (ps ++ [q])[ps.length]?.getD ByteArray.empty = q := by simp
  simp only [longTo, e, longTo_more s ps q ps.length (Nat.le_refl _)]
theorem longStep_cases (s q : ByteArray) (k : Nat) (r : Int × Int) : longStep s q k r = r ∨ (longStep s q k r = ((k : Int), (q.size : Int)) ∧ Lib.hasPrefix s.data.toList q.data.toList = true) := by
  unfold longStep
  split
  · rename_i h
    simp only [Bool.and_eq_true] at h
    exact .inr ⟨rfl, h.2⟩
  · exact .inl rfl
end Go.Proofs.Ytieehofijndelaa
