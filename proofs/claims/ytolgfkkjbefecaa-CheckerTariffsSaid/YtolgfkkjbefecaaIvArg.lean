/- How periods and slices of periods that come in read. -/
import Derived.Test.YtolgfkkjbefecaaLawKit
import Derived.Test.YtolgfkkjbefecaaIvV
import Derived.Deep.Slices
import Derived.Deep.Fields
import Derived.ChangeSame
import Derived.Lib.SmallJoins
namespace Go.Proofs.Ytolgfkkjbefecaa
open Go.ChangeShapes Go.WideShapes Go.ChangeAt Go.RowKit Go.Deep

theorem int_in {H : Type} {enc : TypeId × Value → H} {w : World} {base : Nat} {spare : Nat → Bool} {held : Bool} {n : Nat} {v : Value} {x : DataW H × List MemPlace} (h : DataW.trod enc Try.prog w base spare held n 3 [v] = some x) :
    ∃ z : Int, v = .int .i64 z ∧ (Lit.int .i64 z).wf = true := by
  obtain ⟨z, hc, _, hw⟩ := DataW.trod_int Try.underlying3 h
  exact ⟨z, by simpa using hc, hw⟩

/-- A slice of integers that came in. -/
theorem ir_row {w : World} {A : Option Addr} {len cap : Nat} {zs : List Int} (h : IsRow .i64 w A len cap zs) : ∃ l : List Int, l.length = len ∧ len ≤ cap ∧ IR w A l := by
  rcases h with ⟨rfl, rfl, rfl, rfl⟩ | ⟨x, rfl, hl, hm, hz, hc, _⟩
  · exact ⟨[], rfl, Nat.le_refl _, IR.nil⟩
  · refine ⟨zs.take len, by rw [List.length_take]; omega, hl, fun k hk => ?_⟩
    rw [List.length_take] at hk
    obtain ⟨b, off, rfl, hb, hcc⟩ := row_cells (f := fun i => .int .i64 (zs.getD i 0)) hc (by omega)
    refine ⟨b, off, rfl, hb, ?_⟩
    rw [hcc k (by omega)]
    simp [List.getD, List.getElem?_take, show k < len by omega]
end Go.Proofs.Ytolgfkkjbefecaa
