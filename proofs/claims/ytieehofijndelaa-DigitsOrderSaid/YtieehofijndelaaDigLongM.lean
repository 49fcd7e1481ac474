/- Plain facts on the longest prefix. -/
import Derived.Test.YtieehofijndelaaDigM
import Derived.Test.YtieehofijndelaaDigMaskM
import Derived.Below
namespace Go.Proofs.Ytieehofijndelaa
open Go.RowKit

/-- The first n cells from A on are the strings ps. -/
def Strs (w : World) (A : Option Addr) (n : Nat) (ps : List ByteArray) : Prop :=
  ps.length = n ∧ ∀ k, k < n → ∃ b off, A = some ⟨b, off, none⟩ ∧ b < w.heap.size ∧ w.cell? ⟨b, off + k, none⟩ = some (.string (ps[k]?.getD ByteArray.empty))
theorem Strs.below {w w' : World} {A : Option Addr} {n : Nat} {ps : List ByteArray} (h : Strs w A n ps) (hb : Below w.heap.size w w') : Strs w' A n ps :=
  ⟨h.1, fun k hk => by
    obtain ⟨b, off, e, hbl, hc⟩ := h.2 k hk
    exact ⟨b, off, e, Nat.lt_of_lt_of_le hbl hb.size, (hb.cell (p := ⟨b, off + k, none⟩) hbl).trans hc⟩⟩
/-- The step of the search: position and length so far. -/
def longStep (s q : ByteArray) (k : Nat) (r : Int × Int) : Int × Int :=
  if decide (r.2 < (q.size : Int)) && Lib.hasPrefix s.data.toList q.data.toList then ((k : Int), (q.size : Int)) else r
/-- Position and length of the longest prefix among the first k. -/
def longTo (s : ByteArray) (ps : List ByteArray) : Nat → Int × Int
  | 0 => (-1, -1)
  | k + 1 => longStep s (ps[k]?.getD ByteArray.empty) k (longTo s ps k)
theorem longTo_bounds (s : ByteArray) (ps : List ByteArray) : ∀ k, -1 ≤ (longTo s ps k).1 ∧ (longTo s ps k).1 ≤ k ∧ -1 ≤ (longTo s ps k).2
  | 0 => by simp [longTo]
  | k + 1 => by
    have h := longTo_bounds s ps k
    simp only [longTo, longStep]
    split <;> simp <;> omega
theorem longStep_hit {s q : ByteArray} {k : Nat} {r : Int × Int} (h1 : r.2 < (q.size : Int)) (h2 : Lib.hasPrefix s.data.toList q.data.toList = true) : longStep s q k r = ((k : Int), (q.size : Int)) := by
  simp [longStep, h1, h2]
theorem longStep_short {s q : ByteArray} {k : Nat} {r : Int × Int} (h1 : ¬ r.2 < (q.size : Int)) : longStep s q k r = r := by simp [longStep, h1]
theorem longStep_miss {s q : ByteArray} {k : Nat} {r : Int × Int} (h2 : Lib.hasPrefix s.data.toList q.data.toList = false) : longStep s q k r = r := by simp [longStep, h2]
end Go.Proofs.Ytieehofijndelaa
