/- Records in memory, field by field (as in the texts on tagged). -/
import Derived.Test.YtblhpbheejemnaaPkL1
namespace Go.Proofs.Ytblhpbheejemnaa
open Go.RowKit

theorem RcB.fr {W : World} {g : Nat} {r : Rc} (h : RcB W g r) : ∀ i, W.frozen? ⟨g, i, none⟩ = false := by
  intro i
  unfold RcB at h
  simp [World.frozen?, h]
theorem RcB.set0 {W : World} {g : Nat} {r : Rc} (h : RcB W g r) (x : Int) : RcB (W.setCell ⟨g, 0, none⟩ (.int .i64 x)) g { r with s0 := x } := by
  unfold RcB Rc.cells at *
  simp [World.setCell, Array.getElem?_modify, h]
theorem RcB.set1 {W : World} {g : Nat} {r : Rc} (h : RcB W g r) (x : Int) : RcB (W.setCell ⟨g, 1, none⟩ (.int .i64 x)) g { r with s1 := x } := by
  unfold RcB Rc.cells at *
  simp [World.setCell, Array.getElem?_modify, h]
theorem RcB.set2 {W : World} {g : Nat} {r : Rc} (h : RcB W g r) (x : Int) : RcB (W.setCell ⟨g, 2, none⟩ (.int .i64 x)) g { r with s2 := x } := by
  unfold RcB Rc.cells at *
  simp [World.setCell, Array.getElem?_modify, h]
theorem RcB.set3 {W : World} {g : Nat} {r : Rc} (h : RcB W g r) (x : ByteArray) : RcB (W.setCell ⟨g, 3, none⟩ (.string x)) g { r with sa := x } := by
  unfold RcB Rc.cells at *
  simp [World.setCell, Array.getElem?_modify, h]
theorem RcB.set4 {W : World} {g : Nat} {r : Rc} (h : RcB W g r) (x : ByteArray) : RcB (W.setCell ⟨g, 4, none⟩ (.string x)) g { r with sb := x } := by
  unfold RcB Rc.cells at *
  simp [World.setCell, Array.getElem?_modify, h]
theorem RcB.set5 {W : World} {g : Nat} {r : Rc} (h : RcB W g r) (x : Int) : RcB (W.setCell ⟨g, 5, none⟩ (.int .i64 x)) g { r with s5 := x } := by
  unfold RcB Rc.cells at *
  simp [World.setCell, Array.getElem?_modify, h]
theorem RcB.set6 {W : World} {g : Nat} {r : Rc} (h : RcB W g r) (x : Int) : RcB (W.setCell ⟨g, 6, none⟩ (.int .i64 x)) g { r with s6 := x } := by
  unfold RcB Rc.cells at *
  simp [World.setCell, Array.getElem?_modify, h]
theorem RcB.set7 {W : World} {g : Nat} {r : Rc} (h : RcB W g r) (x : Int) : RcB (W.setCell ⟨g, 7, none⟩ (.int .i64 x)) g { r with s7 := x } := by
  unfold RcB Rc.cells at *
  simp [World.setCell, Array.getElem?_modify, h]
theorem RcB.set8 {W : World} {g : Nat} {r : Rc} (h : RcB W g r) (x : Int) : RcB (W.setCell ⟨g, 8, none⟩ (.int .i64 x)) g { r with s8 := x } := by
  unfold RcB Rc.cells at *
  simp [World.setCell, Array.getElem?_modify, h]
theorem RcB.set9 {W : World} {g : Nat} {r : Rc} (h : RcB W g r) (x : Bool) : RcB (W.setCell ⟨g, 9, none⟩ (.bool x)) g { r with b9 := x } := by
  unfold RcB Rc.cells at *
  simp [World.setCell, Array.getElem?_modify, h]
theorem RcB.set10 {W : World} {g : Nat} {r : Rc} (h : RcB W g r) (x : Int) : RcB (W.setCell ⟨g, 10, none⟩ (.int .i64 x)) g { r with s10 := x } := by
  unfold RcB Rc.cells at *
  simp [World.setCell, Array.getElem?_modify, h]
theorem RcB.set11 {W : World} {g : Nat} {r : Rc} (h : RcB W g r) (x : Bool) : RcB (W.setCell ⟨g, 11, none⟩ (.bool x)) g { r with b11 := x } := by
  unfold RcB Rc.cells at *
  simp [World.setCell, Array.getElem?_modify, h]

theorem RcB.put {w : World} {g : Nat} {r0 : Rc} (r : Rc) (h : RcB w g r0) : RcB ((((((((((((w.setCell ⟨g, 0, none⟩ (.int .i64 r.s0)).setCell ⟨g, 1, none⟩ (.int .i64 r.s1)).setCell ⟨g, 2, none⟩ (.int .i64 r.s2)).setCell ⟨g, 3, none⟩ (.string r.sa)).setCell ⟨g, 4, none⟩ (.string r.sb)).setCell ⟨g, 5, none⟩ (.int .i64 r.s5)).setCell ⟨g, 6, none⟩ (.int .i64 r.s6)).setCell ⟨g, 7, none⟩ (.int .i64 r.s7)).setCell ⟨g, 8, none⟩ (.int .i64 r.s8)).setCell ⟨g, 9, none⟩ (.bool r.b9)).setCell ⟨g, 10, none⟩ (.int .i64 r.s10)).setCell ⟨g, 11, none⟩ (.bool r.b11)) g r := by
  unfold RcB Rc.cells at *
  simp [World.setCell, Array.getElem?_modify, h]
theorem results_cell2 {P : Program} {fn : Func} {p u : Tmp} {ty : TypeId} (h : fn.results = #[.cell p ty, .tmp u]) (tmps : Array Value) (w : World) (g : Nat) (t : TypeId) (cs : Array Value) (fr : Nat × Nat) (d : TypeDesc)
    (hp : tmps.getD p undef = .pointer (some ⟨g, 0, none⟩)) (hg : w.heap[g]? = some (.cells cs t fr))
    (hu : P.underlying ty = some d) (hd : (match d with | .struct _ | .array _ _ => true | _ => false) = true) (hi : (P.info? ty).map (·.size) = some cs.size) :
    (results fn tmps).run P w = .ok (.tuple #[.agg cs, tmps.getD u undef]) w := by
  have hp' : tmps[p]?.getD undef = .pointer (some ⟨g, 0, none⟩) := by simpa using hp
  simp [results, h, hp', asAddr, run_loadVar_row w g t ty cs fr d hg hu hd hi]
theorem RcB.grown {w w' : World} {q g : Nat} {r : Rc} (h : RcB w q r) (k : w.grownBy w' (some g)) (hne : q ≠ g) : RcB w' q r := by
  unfold RcB at *
  rw [k.block q (heap_lt h) (fun e => hne (Option.some.inj e))]; exact h
theorem below_grown {B g : Nat} {a b c : World} (h : Below B a b) (k : b.grownBy c (some g)) (hg : B ≤ g) (hs : B ≤ b.heap.size) : Below B a c :=
  h.trans ⟨k.os, k.tape, k.output, k.size, fun j hj => k.block j (by omega) (by intro e; have := Option.some.inj e; omega)⟩
theorem RcB.drew {w : World} {g : Nat} {r : Rc} (h : RcB w g r) : RcB w.drew g r := h
theorem put12 {w : World} {g : Nat} {r0 : Rc} (s0 : Int) (s1 : Int) (s2 : Int) (sa : ByteArray) (sb : ByteArray) (s5 : Int) (s6 : Int) (s7 : Int) (s8 : Int) (b9 : Bool) (s10 : Int) (b11 : Bool) (h : RcB w g r0) : RcB ((((((((((((w.setCell ⟨g, 0, none⟩ (.int .i64 s0)).setCell ⟨g, 1, none⟩ (.int .i64 s1)).setCell ⟨g, 2, none⟩ (.int .i64 s2)).setCell ⟨g, 3, none⟩ (.string sa)).setCell ⟨g, 4, none⟩ (.string sb)).setCell ⟨g, 5, none⟩ (.int .i64 s5)).setCell ⟨g, 6, none⟩ (.int .i64 s6)).setCell ⟨g, 7, none⟩ (.int .i64 s7)).setCell ⟨g, 8, none⟩ (.int .i64 s8)).setCell ⟨g, 9, none⟩ (.bool b9)).setCell ⟨g, 10, none⟩ (.int .i64 s10)).setCell ⟨g, 11, none⟩ (.bool b11)) g ⟨s0, s1, s2, sa, sb, s5, s6, s7, s8, b9, s10, b11⟩ := by
  unfold RcB Rc.cells at *
  simp [World.setCell, Array.getElem?_modify, h]
end Go.Proofs.Ytblhpbheejemnaa
