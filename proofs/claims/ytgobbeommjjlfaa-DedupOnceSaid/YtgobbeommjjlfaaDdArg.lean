/- How slices of ranges that come in read. -/
import Derived.Test.YtgobbeommjjlfaaLawKit
import Derived.Test.YtgobbeommjjlfaaDdV
import Derived.Deep.Slices
import Derived.Deep.Fields
import Derived.ChangeSame
import Derived.Lib.SmallJoins
namespace Go.Proofs.Ytgobbeommjjlfaa
open Go.ChangeShapes Go.WideShapes Go.ChangeAt Go.RowKit Go.Deep

theorem int_in {H : Type} {enc : TypeId × Value → H} {w : World} {base : Nat} {spare : Nat → Bool} {held : Bool} {n : Nat} {v : Value} {x : DataW H × List MemPlace} (h : DataW.trod enc Try.prog w base spare held n 3 [v] = some x) :
    ∃ z : Int, v = .int .i64 z ∧ (Lit.int .i64 z).wf = true := by
  obtain ⟨z, hc, _, hw⟩ := DataW.trod_int Try.underlying3 h
  exact ⟨z, by simpa using hc, hw⟩
set_option maxRecDepth 100000 in
theorem rgs_of {H : Type} {enc : TypeId × Value → H} {w : World} {d : DataW H} {p : List MemPlace} {A : Option Addr} {len cap : Nat}
    (h : DataW.Trod enc Try.prog w 0 (fun _ => true) true 22 (.slice A len cap) d p) : ∃ l : List Rg, l.length = len ∧ len ≤ cap ∧ cap ≤ maxLen ∧ (A = none → len = 0) ∧ RgR w A l := by
  have he : Try.prog.underlying 44 = some (.struct (Try.prog.fieldsOf 44)) := by kernel_rfl
  obtain ⟨fuel, hf⟩ := h
  rcases open_slice Try.underlying22 hf with ⟨hcs, _⟩ | ⟨a, l, c, m, n, D, Pl, hcs, _, hl, hm, hmm, _, hi⟩
  · simp [Value.cells] at hcs
    obtain ⟨rfl, rfl, rfl⟩ := hcs
    exact ⟨[], rfl, Nat.le_refl _, Nat.zero_le _, fun _ => rfl, RgR.nil⟩
  · simp [Value.cells] at hcs
    obtain ⟨rfl, rfl, rfl⟩ := hcs
    simp at hmm
    subst hmm
    have hC : Try.prog.cellsOf 44 = 3 := by kernel_rfl
    have hat : ∀ i, i < m → ∃ u z y : Int, w.cell? (a.add (i * 3)) = some (.int .i64 u) ∧ w.cell? (a.add (i * 3 + 1)) = some (.int .i64 z) ∧ w.cell? (a.add (i * 3 + 2)) = some (.int .i64 y) := by
      intro i him
      obtain ⟨cs', hc, ht'⟩ := hi i him
      rw [hC] at hc
      obtain ⟨ys, n', hn', hy, hlen, hyl, hfl⟩ := DataW.trod_struct he ht'
      obtain ⟨_, hcl, hcat⟩ := World.cells?_some hc
      obtain ⟨c0, c1, c2, rfl⟩ : ∃ c0 c1 c2, cs' = [c0, c1, c2] := by
        match cs', hcl with
        | [c0, c1, c2], _ => exact ⟨c0, c1, c2, rfl⟩
      have h0 := hfl 0 _ rfl
      have h1 := hfl 1 _ rfl
      have h2 := hfl 2 _ rfl
      have e0 : ys[0]? = some (ys[0]'(by rw [hyl]; decide)) := List.getElem?_eq_getElem _
      have e1 : ys[1]? = some (ys[1]'(by rw [hyl]; decide)) := List.getElem?_eq_getElem _
      have e2 : ys[2]? = some (ys[2]'(by rw [hyl]; decide)) := List.getElem?_eq_getElem _
      rw [e0] at h0
      rw [e1] at h1
      rw [e2] at h2
      obtain ⟨u, hu, _⟩ := int_in (v := c0) h0
      obtain ⟨z, hz, _⟩ := int_in (v := c1) h1
      obtain ⟨y, hy', _⟩ := int_in (v := c2) h2
      subst hu hz hy'
      have g0 := hcat 0 (by decide)
      have g1 := hcat 1 (by decide)
      have g2 := hcat 2 (by decide)
      rw [Go.Deep.add_add] at g0 g1 g2
      exact ⟨u, z, y, by simpa using g0, by simpa using g1, by simpa using g2⟩
    obtain ⟨f, hf'⟩ : ∃ f : Nat → Rg, ∀ i, i < m → w.cell? (a.add (i * 3)) = some (.int .i64 (f i).1) ∧ w.cell? (a.add (i * 3 + 1)) = some (.int .i64 (f i).2.1) ∧ w.cell? (a.add (i * 3 + 2)) = some (.int .i64 (f i).2.2) := by
      refine ⟨fun i => if h : i < m then (Classical.choose (hat i h), Classical.choose (Classical.choose_spec (hat i h)), Classical.choose (Classical.choose_spec (Classical.choose_spec (hat i h)))) else (0, 0, 0), fun i hi' => ?_⟩
      simp only [dif_pos hi']
      exact Classical.choose_spec (Classical.choose_spec (Classical.choose_spec (hat i hi')))
    refine ⟨(List.range len).map f, by simp, by omega, by omega, (by simp), fun k hk => ?_⟩
    simp at hk
    obtain ⟨g0, g1, g2⟩ := hf' k (by omega)
    obtain ⟨b, off, spot⟩ := a
    have hs : spot = none := by
      have := hf' 0 (by omega)
      have h := World.cell?_spot this.1
      simpa [Addr.add] using h
    subst hs
    rw [add_none] at g0 g1 g2
    have hb := cell_block_lt g0
    refine ⟨b, off, rfl, hb, ?_, ?_, ?_⟩
    · rw [g0]; simp [List.getD, List.getElem?_map, List.getElem?_range hk]
    · rw [show off + k * 3 + 1 = off + (k * 3 + 1) by omega, g1]; simp [List.getD, List.getElem?_map, List.getElem?_range hk]
    · rw [show off + k * 3 + 2 = off + (k * 3 + 2) by omega, g2]; simp [List.getD, List.getElem?_map, List.getElem?_range hk]
/-- An array of two integers, by value. -/
theorem open_pair {H : Type} {enc : TypeId × Value → H} {w : World} {base : Nat} {spare : Nat → Bool} {held : Bool} {r : Reach} {b0 : Nat} {v : Value} {d : DataW H} {p : List MemPlace}
    (hv : Value.okWide Try.prog w r b0 27 v) (h : DataW.Trod enc Try.prog w base spare held 27 v d p) : ∃ x y : Int, v = .agg #[.int .i64 x, .int .i64 y] := by
  obtain ⟨cs, rfl, hsz, _⟩ : ∃ cs, v = .agg cs ∧ cs.size = Try.prog.cellsOf 27 ∧ Row.okWide Try.prog w r b0 27 cs := by
    simpa [Value.okWide, Try.underlying27] using hv
  have hC : Try.prog.cellsOf 27 = 2 := by kernel_rfl
  have hC1 : Try.prog.cellsOf 3 = 1 := by kernel_rfl
  rw [hC] at hsz
  obtain ⟨l⟩ := cs
  obtain ⟨c0, c1, rfl⟩ : ∃ c0 c1, l = [c0, c1] := by
    match l, hsz with
    | [a, b], _ => exact ⟨a, b, rfl⟩
  obtain ⟨fuel, hf⟩ := h
  obtain ⟨xs, m, _, _, _, hl, hel⟩ := DataW.trod_array Try.underlying27 hf
  have h0 := hel 0 (by decide)
  have h1 := hel 1 (by decide)
  rw [hC1] at h0 h1
  have e0 : xs[0]? = some (xs[0]'(by rw [hl]; decide)) := List.getElem?_eq_getElem _
  have e1 : xs[1]? = some (xs[1]'(by rw [hl]; decide)) := List.getElem?_eq_getElem _
  rw [e0] at h0
  rw [e1] at h1
  obtain ⟨u, hu, _⟩ := int_in (v := c0) h0
  obtain ⟨z, hz, _⟩ := int_in (v := c1) h1
  subst hu hz
  exact ⟨u, z, rfl⟩
end Go.Proofs.Ytgobbeommjjlfaa
