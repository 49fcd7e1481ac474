/- A row of integers in a block, as a list: what the stable sort of the library does to it. -/
import Derived.WalkKit
import Derived.Below
import Derived.Laws.OwnMore
import Derived.Deep.Draws
import Derived.Lib.Hide
import Derived.Test.YtopngdjhnljmfaaDoorProg
namespace Go.Proofs.YtopngdjhnljmfaaDoor.St
open Go.RowKit

/-- The block's cells hold the list. -/
def HI (W : World) (g : Nat) (d : List Int) : Prop := ∀ j, j < d.length → W.cell? ⟨g, j, none⟩ = some (.int .i64 (d.getD j 0)) ∧ W.frozen? ⟨g, j, none⟩ = false
/-- .. and nothing else has turned. -/
def SR (w0 : World) (g : Nat) (d : List Int) (W : World) : Prop := HI W g d ∧ w0.grownBy W (some g)
theorem grown_drewN {a w : World} {row : Option Nat} (h : a.grownBy w row) (n : Nat) : a.grownBy (w.drewN n) row := ⟨h.os, h.tape, h.output, h.size, h.block⟩
theorem grown_setCell {a w : World} {g j : Nat} (h : a.grownBy w (some g)) (u : Value) : a.grownBy (w.setCell ⟨g, j, none⟩ u) (some g) :=
  ⟨h.os, h.tape, h.output, by simpa [World.setCell] using h.size, fun i hi hne => (Below.heap_setCell w ⟨g, j, none⟩ u i (by rintro rfl; exact hne rfl)).trans (h.block i hi hne)⟩
theorem SR.drewN {w0 : World} {g : Nat} {d : List Int} {W : World} (h : SR w0 g d W) (n : Nat) : SR w0 g d (W.drewN n) := ⟨h.1, grown_drewN h.2 n⟩
theorem SR.drew {w0 : World} {g : Nat} {d : List Int} {W : World} (h : SR w0 g d W) : SR w0 g d W.drew := h.drewN 1
theorem SR.cell {w0 : World} {g : Nat} {d : List Int} {W : World} (h : SR w0 g d W) {j : Nat} (hj : j < d.length) : W.cell? ⟨g, j, none⟩ = some (.int .i64 (d.getD j 0)) := (h.1 j hj).1
theorem SR.frozen {w0 : World} {g : Nat} {d : List Int} {W : World} (h : SR w0 g d W) {j : Nat} (hj : j < d.length) : W.frozen? ⟨g, j, none⟩ = false := (h.1 j hj).2
theorem SR.far {w0 : World} {g : Nat} {d : List Int} {W : World} (h : SR w0 g d W) {b o : Nat} {v : Value} (hb : b ≠ g) (hl : b < w0.heap.size) (hc : w0.cell? ⟨b, o, none⟩ = some v) : W.cell? ⟨b, o, none⟩ = some v := by
  rw [← hc]
  exact World.cell?_of_block (h.2.block b hl (fun e => hb (by injection e)))
theorem HI.set_ {W : World} {g : Nat} {d : List Int} (h : HI W g d) (j : Nat) (hj : j < d.length) (u : Int) : HI (W.setCell ⟨g, j, none⟩ (.int .i64 u)) g (d.set j u) := by
  intro i hi
  rw [List.length_set] at hi
  obtain ⟨h1, h2⟩ := h i hi
  refine ⟨?_, by rw [World.frozen?_setCell]; exact h2⟩
  by_cases e : i = j
  · subst e
    rw [World.cell?_setCell_same _ _ _ (h i hi).1]
    simp [List.getD, List.getElem?_set, hi]
  · rw [World.cell?_setCell_other _ _ _ _ (by intro e'; simp only [Addr.mk.injEq] at e'; exact e e'.2.1.symm), h1]
    simp [List.getD, List.getElem?_set, Ne.symm e]
theorem SR.set_ {w0 : World} {g : Nat} {d : List Int} {W : World} (h : SR w0 g d W) (j : Nat) (hj : j < d.length) (u : Int) : SR w0 g (d.set j u) (W.setCell ⟨g, j, none⟩ (.int .i64 u)) :=
  ⟨h.1.set_ j hj u, grown_setCell h.2 _⟩
/-- Two elements, by their places. -/
theorem at_two (P M S : List Int) (x y : Int) : (P ++ x :: M ++ y :: S).getD P.length 0 = x ∧ (P ++ x :: M ++ y :: S).getD (P.length + 1 + M.length) 0 = y := by
  constructor
  · simp [List.getD]
  · have e : P ++ x :: M ++ y :: S = (P ++ x :: M) ++ y :: S := rfl
    rw [e]
    have hl : (P ++ x :: M).length = P.length + 1 + M.length := by simp; omega
    rw [← hl]
    simp [List.getD]
theorem set_two (P M S : List Int) (x y : Int) : ((P ++ x :: M ++ y :: S).set P.length y).set (P.length + 1 + M.length) x = P ++ y :: M ++ x :: S := by
  have hl : (P ++ y :: M).length = P.length + 1 + M.length := by simp; omega
  have e1 : (P ++ x :: M ++ y :: S).set P.length y = P ++ y :: M ++ y :: S := by
    rw [List.append_assoc, List.set_append_right _ _ (Nat.le_refl _)]
    simp
  rw [e1, List.set_append_right _ _ (by omega), hl]
  simp
/-- An exchange of two elements. -/
theorem SR.swap {w0 : World} {g : Nat} {P M S : List Int} {x y : Int} {W : World} (h : SR w0 g (P ++ x :: M ++ y :: S) W) {i j : Nat} (hi : i = P.length) (hj : j = P.length + 1 + M.length) :
    W.cell? ⟨g, i, none⟩ = some (.int .i64 x) ∧ W.cell? ⟨g, j, none⟩ = some (.int .i64 y) ∧ W.frozen? ⟨g, i, none⟩ = false ∧ W.frozen? ⟨g, j, none⟩ = false ∧
    (W.setCell ⟨g, i, none⟩ (.int .i64 y)).cell? ⟨g, j, none⟩ = some (.int .i64 y) ∧
    SR w0 g (P ++ y :: M ++ x :: S) ((W.setCell ⟨g, i, none⟩ (.int .i64 y)).setCell ⟨g, j, none⟩ (.int .i64 x)) := by
  subst hi hj
  obtain ⟨a1, a2⟩ := at_two P M S x y
  have l1 : P.length < (P ++ x :: M ++ y :: S).length := by simp
  have l2 : P.length + 1 + M.length < (P ++ x :: M ++ y :: S).length := by simp; omega
  have c2 := h.cell l2
  refine ⟨by rw [h.cell l1, a1], by rw [c2, a2], h.frozen l1, h.frozen l2, ?_, ?_⟩
  · rw [World.cell?_setCell_other _ _ _ _ (by intro e'; simp only [Addr.mk.injEq] at e'; omega), c2, a2]
  · rw [← set_two]
    exact (h.set_ _ l1 y).set_ _ (by rw [List.length_set]; exact l2) x
/-- The same, the later place first. -/
theorem SR.swapr {w0 : World} {g : Nat} {P M S : List Int} {x y : Int} {W : World} (h : SR w0 g (P ++ x :: M ++ y :: S) W) {i j : Nat} (hi : i = P.length) (hj : j = P.length + 1 + M.length) :
    W.cell? ⟨g, i, none⟩ = some (.int .i64 x) ∧ W.cell? ⟨g, j, none⟩ = some (.int .i64 y) ∧ W.frozen? ⟨g, i, none⟩ = false ∧ W.frozen? ⟨g, j, none⟩ = false ∧
    (W.setCell ⟨g, j, none⟩ (.int .i64 x)).cell? ⟨g, i, none⟩ = some (.int .i64 x) ∧
    SR w0 g (P ++ y :: M ++ x :: S) ((W.setCell ⟨g, j, none⟩ (.int .i64 x)).setCell ⟨g, i, none⟩ (.int .i64 y)) := by
  obtain ⟨c1, c2, f1, f2, _, _⟩ := h.swap hi hj
  subst hi hj
  have l1 : P.length < (P ++ x :: M ++ y :: S).length := by simp
  have l2 : P.length + 1 + M.length < (P ++ x :: M ++ y :: S).length := by simp; omega
  refine ⟨c1, c2, f1, f2, ?_, ?_⟩
  · rw [World.cell?_setCell_other _ _ _ _ (by intro e'; simp only [Addr.mk.injEq] at e'; omega), c1]
  · rw [← set_two, List.set_comm _ _ (by omega)]
    exact (h.set_ _ l2 x).set_ _ (by rw [List.length_set]; exact l1) y
/-- One element by its place. -/
theorem SR.one {w0 : World} {g : Nat} {P S : List Int} {x : Int} {W : World} (h : SR w0 g (P ++ x :: S) W) {i : Nat} (hi : i = P.length) : W.cell? ⟨g, i, none⟩ = some (.int .i64 x) := by
  subst hi
  rw [h.cell (by simp)]
  simp [List.getD]
end Go.Proofs.YtopngdjhnljmfaaDoor.St
