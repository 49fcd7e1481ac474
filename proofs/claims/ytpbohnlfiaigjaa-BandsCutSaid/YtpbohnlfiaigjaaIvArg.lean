/- How periods and slices of periods that come in read. -/
import Derived.Test.YtpbohnlfiaigjaaLawKit
import Derived.Test.YtpbohnlfiaigjaaIvV
import Derived.Deep.Slices
import Derived.Deep.Fields
import Derived.ChangeSame
import Derived.Lib.SmallJoins
namespace Go.Proofs.Ytpbohnlfiaigjaa
open Go.ChangeShapes Go.WideShapes Go.ChangeAt Go.RowKit Go.Deep

theorem int_in {H : Type} {enc : TypeId × Value → H} {w : World} {base : Nat} {spare : Nat → Bool} {held : Bool} {n : Nat} {v : Value} {x : DataW H × List MemPlace} (h : DataW.trod enc Try.prog w base spare held n 3 [v] = some x) :
    ∃ z : Int, v = .int .i64 z ∧ (Lit.int .i64 z).wf = true := by
  obtain ⟨z, hc, _, hw⟩ := DataW.trod_int Try.underlying3 h
  exact ⟨z, by simpa using hc, hw⟩
set_option maxRecDepth 100000 in
theorem open_period {H : Type} {enc : TypeId × Value → H} {w : World} {base : Nat} {spare : Nat → Bool} {held : Bool} {r : Reach} {b0 : Nat} {v : Value} {d : DataW H} {p : List MemPlace}
    (hv : Value.okWide Try.prog w r b0 37 v) (h : DataW.Trod enc Try.prog w base spare held 37 v d p) : ∃ x y : Int, v = .agg #[.int .i64 x, .int .i64 y] ∧ (Lit.int .i64 x).wf = true ∧ (Lit.int .i64 y).wf = true := by
  obtain ⟨v0, v1, y0, y1, n, rfl, _, _, h0, h1⟩ := Go.Joins.open_agg2 Try.underlying37 (by kernel_rfl) (by kernel_rfl) hv h
  obtain ⟨a, rfl, ha⟩ := int_in h0
  obtain ⟨b, rfl, hb⟩ := int_in h1
  exact ⟨a, b, rfl, ha, hb⟩

set_option maxRecDepth 100000 in
theorem isPds_of {H : Type} {enc : TypeId × Value → H} {w : World} {d : DataW H} {p : List MemPlace} {A : Option Addr} {len cap : Nat}
    (h : DataW.Trod enc Try.prog w 0 (fun _ => true) true 69 (.slice A len cap) d p) : ∃ l : List Pd, l.length = len ∧ len ≤ cap ∧ PR w A l := by
  have he : Try.prog.underlying 37 = some (.struct (Try.prog.fieldsOf 37)) := by kernel_rfl
  obtain ⟨fuel, hf⟩ := h
  rcases open_slice Try.underlying69 hf with ⟨hcs, _⟩ | ⟨a, l, c, m, n, D, Pl, hcs, _, hl, hm, hmm, _, hi⟩
  · simp [Value.cells] at hcs
    obtain ⟨rfl, rfl, rfl⟩ := hcs
    exact ⟨[], rfl, Nat.le_refl _, PR.nil⟩
  · simp [Value.cells] at hcs
    obtain ⟨rfl, rfl, rfl⟩ := hcs
    simp at hmm
    subst hmm
    have hC : Try.prog.cellsOf 37 = 2 := by kernel_rfl
    have hone : oneCellFields Try.prog (Try.prog.fieldsOf 37) = true := by kernel_rfl
    have hat : ∀ i, i < m → ∃ u z : Int, w.cell? (a.add (i * 2)) = some (.int .i64 u) ∧ w.cell? (a.add (i * 2 + 1)) = some (.int .i64 z) := by
      intro i him
      obtain ⟨cs', hc, ht'⟩ := hi i him
      rw [hC] at hc
      obtain ⟨ys, n', hn', hy, hlen, hyl, hfl⟩ := DataW.trod_struct he ht'
      obtain ⟨_, hcl, hcat⟩ := World.cells?_some hc
      obtain ⟨c0, c1, rfl⟩ : ∃ c0 c1, cs' = [c0, c1] := by
        match cs', hcl with
        | [c0, c1], _ => exact ⟨c0, c1, rfl⟩
      have h0 := hfl 0 _ rfl
      have h1 := hfl 1 _ rfl
      have e0 : ys[0]? = some (ys[0]'(by rw [hyl]; decide)) := List.getElem?_eq_getElem _
      have e1 : ys[1]? = some (ys[1]'(by rw [hyl]; decide)) := List.getElem?_eq_getElem _
      rw [e0] at h0
      rw [e1] at h1
      obtain ⟨u, hu, _⟩ := int_in (v := c0) h0
      obtain ⟨z, hz, _⟩ := int_in (v := c1) h1
      subst hu hz
      have g0 := hcat 0 (by decide)
      have g1 := hcat 1 (by decide)
      rw [Go.Deep.add_add] at g0 g1
      exact ⟨u, z, by simpa using g0, by simpa using g1⟩
    obtain ⟨f, hf'⟩ : ∃ f : Nat → Pd, ∀ i, i < m → w.cell? (a.add (i * 2)) = some (.int .i64 (f i).1) ∧ w.cell? (a.add (i * 2 + 1)) = some (.int .i64 (f i).2) := by
      refine ⟨fun i => if h : i < m then (Classical.choose (hat i h), Classical.choose (Classical.choose_spec (hat i h))) else (0, 0), fun i hi' => ?_⟩
      simp only [dif_pos hi']
      exact Classical.choose_spec (Classical.choose_spec (hat i hi'))
    refine ⟨(List.range len).map f, by simp, by omega, fun k hk => ?_⟩
    simp at hk
    obtain ⟨g0, g1⟩ := hf' k (by omega)
    obtain ⟨b, off, spot⟩ := a
    have hs : spot = none := by
      have := hf' 0 (by omega)
      have h := World.cell?_spot this.1
      simpa [Addr.add] using h
    subst hs
    rw [add_none] at g0 g1
    have hb := cell_block_lt g0
    refine ⟨b, off, rfl, hb, ?_, ?_⟩
    · rw [g0]; simp [List.getD, List.getElem?_map, List.getElem?_range hk]
    · rw [show off + k * 2 + 1 = off + (k * 2 + 1) by omega, g1]; simp [List.getD, List.getElem?_map, List.getElem?_range hk]
/-- A slice of integers that came in. -/
theorem ir_row {w : World} {A : Option Addr} {len cap : Nat} {zs : List Int} (h : IsRow .i64 w A len cap zs) : ∃ l : List Int, l.length = len ∧ len ≤ cap ∧ IR w A l := by
  rcases h with ⟨rfl, rfl, rfl, rfl⟩ | ⟨x, rfl, hl, hm, hz, hc, _⟩
  · exact ⟨[], rfl, Nat.le_refl _, IR.nil⟩
  · refine ⟨zs.take len, by rw [List.length_take]; omega, hl, fun k hk => ?_⟩
    rw [List.length_take] at hk
    obtain ⟨b, off, rfl, hb, hcc⟩ := row_cells (f := fun i => .int .i64 (zs.getD i 0)) hc (by omega)
    refine ⟨b, off, rfl, hb, ?_⟩
    rw [hcc k (by omega)]
    simp [List.getD, List.getElem?_take, show k < len by omega]
end Go.Proofs.Ytpbohnlfiaigjaa
