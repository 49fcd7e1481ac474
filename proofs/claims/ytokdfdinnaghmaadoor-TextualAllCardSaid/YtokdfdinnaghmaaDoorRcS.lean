/- Records in memory. -/
import Derived.Test.YtokdfdinnaghmaaDoorLawKit
import Derived.Below
namespace Go.Proofs.YtokdfdinnaghmaaDoor
open Go.RowKit
structure Rc where
  s0 : Int
  s1 : Int
  s2 : Int
  sa : ByteArray
  sb : ByteArray
  s5 : Int
  s6 : Int
  s7 : Int
  s8 : Int
  b9 : Bool
  s10 : Int
  b11 : Bool
def Rc.cells (r : Rc) : Array Value := #[.int .i64 r.s0, .int .i64 r.s1, .int .i64 r.s2, .string r.sa, .string r.sb, .int .i64 r.s5, .int .i64 r.s6, .int .i64 r.s7, .int .i64 r.s8, .bool r.b9, .int .i64 r.s10, .bool r.b11]
/-- The block that holds a record. -/
def RcB (W : World) (g : Nat) (r : Rc) : Prop := W.heap[g]? = some (.cells r.cells 23 (0, 0))
theorem RcB.below {W W' : World} {g B : Nat} {r : Rc} (h : RcB W g r) (hb : Below B W W') (hg : g < B) : RcB W' g r := by
  unfold RcB at *; rw [hb.block g hg]; exact h
theorem RcB.cells {W : World} {g : Nat} {r : Rc} (h : RcB W g r) : W.cell? ⟨g, 0, none⟩ = some (.int .i64 r.s0) ∧ W.cell? ⟨g, 1, none⟩ = some (.int .i64 r.s1) ∧ W.cell? ⟨g, 2, none⟩ = some (.int .i64 r.s2) ∧ W.cell? ⟨g, 3, none⟩ = some (.string r.sa) ∧ W.cell? ⟨g, 4, none⟩ = some (.string r.sb) ∧ W.cell? ⟨g, 5, none⟩ = some (.int .i64 r.s5) ∧ W.cell? ⟨g, 6, none⟩ = some (.int .i64 r.s6) ∧ W.cell? ⟨g, 7, none⟩ = some (.int .i64 r.s7) ∧ W.cell? ⟨g, 8, none⟩ = some (.int .i64 r.s8) ∧ W.cell? ⟨g, 9, none⟩ = some (.bool r.b9) ∧ W.cell? ⟨g, 10, none⟩ = some (.int .i64 r.s10) ∧ W.cell? ⟨g, 11, none⟩ = some (.bool r.b11) := by
  unfold RcB Rc.cells at h
  simp [World.cell?, h]
end Go.Proofs.YtokdfdinnaghmaaDoor
