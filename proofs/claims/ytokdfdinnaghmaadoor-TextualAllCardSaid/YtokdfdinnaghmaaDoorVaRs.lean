/- How slices of records that come in read. -/
import Derived.Test.YtokdfdinnaghmaaDoorLawKit
import Derived.Test.YtokdfdinnaghmaaDoorVaB
import Derived.Deep.Slices
import Derived.Deep.Fields
import Derived.ChangeSame
import Derived.Lib.SmallJoins
namespace Go.Proofs.YtokdfdinnaghmaaDoor.Va
open Go.ChangeShapes Go.WideShapes Go.ChangeAt Go.RowKit Go.Deep

theorem int_inV {H : Type} {enc : TypeId × Value → H} {w : World} {base : Nat} {spare : Nat → Bool} {held : Bool} {n : Nat} {v : Value} {x : DataW H × List MemPlace} (h : DataW.trod enc Tryd.prog w base spare held n 3 [v] = some x) :
    ∃ z : Int, v = .int .i64 z := by
  obtain ⟨z, hc, _, hw⟩ := DataW.trod_int Tryd.underlying3 h
  exact ⟨z, by simpa using hc⟩
theorem str_inV {H : Type} {enc : TypeId × Value → H} {w : World} {base : Nat} {spare : Nat → Bool} {held : Bool} {n : Nat} {v : Value} {x : DataW H × List MemPlace} (h : DataW.trod enc Tryd.prog w base spare held n 9 [v] = some x) :
    ∃ z : ByteArray, v = .string z := by
  obtain ⟨z, hc, _, hw⟩ := DataW.trod_string (cs := [v]) Tryd.underlying9 h
  exact ⟨z, by simpa using hc⟩
theorem bool_inV {H : Type} {enc : TypeId × Value → H} {w : World} {base : Nat} {spare : Nat → Bool} {held : Bool} {n : Nat} {v : Value} {x : DataW H × List MemPlace} (h : DataW.trod enc Tryd.prog w base spare held n 4 [v] = some x) :
    ∃ z : Bool, v = .bool z := by
  obtain ⟨z, hc, _⟩ := DataW.trod_bool Tryd.underlying4 h
  exact ⟨z, by simpa using hc⟩
theorem list12 {α : Type} {cs : List α} (h : cs.length = 12) : ∃ c0 c1 c2 c3 c4 c5 c6 c7 c8 c9 c10 c11, cs = [c0, c1, c2, c3, c4, c5, c6, c7, c8, c9, c10, c11] := by
  match cs, h with
  | [c0, c1, c2, c3, c4, c5, c6, c7, c8, c9, c10, c11], _ => exact ⟨c0, c1, c2, c3, c4, c5, c6, c7, c8, c9, c10, c11, rfl⟩
set_option maxRecDepth 100000 in
theorem rec_in {H : Type} {enc : TypeId × Value → H} {w : World} {base : Nat} {spare : Nat → Bool} {held : Bool} {n : Nat} {cs : List Value} {x : DataW H × List MemPlace} (h : DataW.trod enc Tryd.prog w base spare held n 23 cs = some x) (hl : cs.length = 12) :
    ∃ rc : Rc, cs = rc.cells.toList := by
  have he : Tryd.prog.underlying 23 = some (.struct (Tryd.prog.fieldsOf 23)) := by kernel_rfl
  obtain ⟨c0, c1, c2, c3, c4, c5, c6, c7, c8, c9, c10, c11, rfl⟩ := list12 hl
  obtain ⟨ys, n', hn', hy, hlen, hyl, hfl⟩ := DataW.trod_struct he h
  have h0 := hfl 0 _ rfl
  have e0 : ys[0]? = some (ys[0]'(by rw [hyl]; decide)) := List.getElem?_eq_getElem _
  rw [e0] at h0
  have h1 := hfl 1 _ rfl
  have e1 : ys[1]? = some (ys[1]'(by rw [hyl]; decide)) := List.getElem?_eq_getElem _
  rw [e1] at h1
  have h2 := hfl 2 _ rfl
  have e2 : ys[2]? = some (ys[2]'(by rw [hyl]; decide)) := List.getElem?_eq_getElem _
  rw [e2] at h2
  have h3 := hfl 3 _ rfl
  have e3 : ys[3]? = some (ys[3]'(by rw [hyl]; decide)) := List.getElem?_eq_getElem _
  rw [e3] at h3
  have h4 := hfl 4 _ rfl
  have e4 : ys[4]? = some (ys[4]'(by rw [hyl]; decide)) := List.getElem?_eq_getElem _
  rw [e4] at h4
  have h5 := hfl 5 _ rfl
  have e5 : ys[5]? = some (ys[5]'(by rw [hyl]; decide)) := List.getElem?_eq_getElem _
  rw [e5] at h5
  have h6 := hfl 6 _ rfl
  have e6 : ys[6]? = some (ys[6]'(by rw [hyl]; decide)) := List.getElem?_eq_getElem _
  rw [e6] at h6
  have h7 := hfl 7 _ rfl
  have e7 : ys[7]? = some (ys[7]'(by rw [hyl]; decide)) := List.getElem?_eq_getElem _
  rw [e7] at h7
  have h8 := hfl 8 _ rfl
  have e8 : ys[8]? = some (ys[8]'(by rw [hyl]; decide)) := List.getElem?_eq_getElem _
  rw [e8] at h8
  have h9 := hfl 9 _ rfl
  have e9 : ys[9]? = some (ys[9]'(by rw [hyl]; decide)) := List.getElem?_eq_getElem _
  rw [e9] at h9
  have h10 := hfl 10 _ rfl
  have e10 : ys[10]? = some (ys[10]'(by rw [hyl]; decide)) := List.getElem?_eq_getElem _
  rw [e10] at h10
  have h11 := hfl 11 _ rfl
  have e11 : ys[11]? = some (ys[11]'(by rw [hyl]; decide)) := List.getElem?_eq_getElem _
  rw [e11] at h11
  obtain ⟨u0, hu0⟩ := int_inV (v := c0) h0
  obtain ⟨u1, hu1⟩ := int_inV (v := c1) h1
  obtain ⟨u2, hu2⟩ := int_inV (v := c2) h2
  obtain ⟨u3, hu3⟩ := str_inV (v := c3) h3
  obtain ⟨u4, hu4⟩ := str_inV (v := c4) h4
  obtain ⟨u5, hu5⟩ := int_inV (v := c5) h5
  obtain ⟨u6, hu6⟩ := int_inV (v := c6) h6
  obtain ⟨u7, hu7⟩ := int_inV (v := c7) h7
  obtain ⟨u8, hu8⟩ := int_inV (v := c8) h8
  obtain ⟨u9, hu9⟩ := bool_inV (v := c9) h9
  obtain ⟨u10, hu10⟩ := int_inV (v := c10) h10
  obtain ⟨u11, hu11⟩ := bool_inV (v := c11) h11
  subst hu0 hu1 hu2 hu3 hu4 hu5 hu6 hu7 hu8 hu9 hu10 hu11
  exact ⟨⟨u0, u1, u2, u3, u4, u5, u6, u7, u8, u9, u10, u11⟩, rfl⟩
set_option maxRecDepth 100000 in
theorem recs_of {H : Type} {enc : TypeId × Value → H} {w : World} {d : DataW H} {p : List MemPlace} {A : Option Addr} {len cap : Nat}
    (h : DataW.Trod enc Tryd.prog w 0 (fun _ => true) true 35 (.slice A len cap) d p) : ∃ l : List Rc, l.length = len ∧ len ≤ cap ∧ cap ≤ maxLen ∧ (A = none → len = 0) ∧ RecR w A l := by
  obtain ⟨fuel, hf⟩ := h
  rcases open_slice Tryd.underlying35 hf with ⟨hcs, _⟩ | ⟨a, l, c, m, n, D, Pl, hcs, _, hl, hm, hmm, _, hi⟩
  · simp [Value.cells] at hcs
    obtain ⟨rfl, rfl, rfl⟩ := hcs
    exact ⟨[], rfl, Nat.le_refl _, Nat.zero_le _, fun _ => rfl, RecR.nil⟩
  · simp [Value.cells] at hcs
    obtain ⟨rfl, rfl, rfl⟩ := hcs
    simp at hmm
    subst hmm
    have hC : Tryd.prog.cellsOf 23 = 12 := by kernel_rfl
    have hat : ∀ i, i < m → ∃ rc : Rc, ∀ j, j < 12 → w.cell? (a.add (i * 12 + j)) = rc.cells[j]? := by
      intro i him
      obtain ⟨cs', hc, ht'⟩ := hi i him
      rw [hC] at hc
      obtain ⟨_, hcl, hcat⟩ := World.cells?_some hc
      obtain ⟨rc, rfl⟩ := rec_in ht' hcl
      refine ⟨rc, fun j hj => ?_⟩
      have g := hcat j hj
      rw [Go.Deep.add_add] at g
      rw [g, Array.getElem?_toList]
    obtain ⟨f, hf'⟩ : ∃ f : Nat → Rc, ∀ i, i < m → ∀ j, j < 12 → w.cell? (a.add (i * 12 + j)) = (f i).cells[j]? := by
      refine ⟨fun i => if h : i < m then Classical.choose (hat i h) else rc0, fun i hi' => ?_⟩
      simp only [dif_pos hi']
      exact Classical.choose_spec (hat i hi')
    refine ⟨(List.range len).map f, by simp, by omega, by omega, (by simp), fun k hk => ?_⟩
    simp at hk
    have g := hf' k (by omega)
    obtain ⟨b, off, spot⟩ := a
    have hs : spot = none := by
      have := hf' 0 (by omega) 0 (by omega)
      have h := World.cell?_spot (this.trans rfl)
      simpa [Addr.add] using h
    subst hs
    have g0 := g 0 (by omega)
    rw [add_none] at g0
    have hb := cell_block_lt (g0.trans rfl)
    refine ⟨b, off, rfl, hb, fun j hj => ?_⟩
    have gj := g j hj
    rw [add_none] at gj
    rw [show off + k * 12 + j = off + (k * 12 + j) by omega, gj]
    simp [List.getD, List.getElem?_map, List.getElem?_range hk]
set_option maxRecDepth 100000 in
theorem slice_lt {W : World} {base : Nat} {a : Addr} {len cap : Nat} (h : Value.okWide Tryd.prog W .any base 35 (.slice (some a) len cap)) : a.block < W.heap.size := by
  simp only [Value.okWide, Tryd.underlying35, Cell.okWide, Cell.ok, World.has] at h
  obtain ⟨_, _, _, _, row, cells, hs, _⟩ := h
  rcases Nat.lt_or_ge a.block W.heap.size with h | h
  · exact h
  · simp [World.shape?, Array.getElem?_eq_none h] at hs
set_option maxRecDepth 100000 in
theorem recs_in {H : Type} {enc : TypeId × Value → H} {w : World} {base : Nat} {d : DataW H} {p : List MemPlace} {A : Option Addr} {len cap : Nat} (hv : Value.okWide Tryd.prog w .any base 35 (.slice A len cap))
    (h : DataW.Trod enc Tryd.prog w 0 (fun _ => true) true 35 (.slice A len cap) d p) : ∃ l : List Rc, l.length = len ∧ len ≤ cap ∧ cap ≤ maxLen ∧ RecR w A l ∧ ∀ a, A = some a → a.block < w.heap.size := by
  obtain ⟨l, h1, h2, h3, _, h4⟩ := recs_of h
  exact ⟨l, h1, h2, h3, h4, fun a ha => by subst ha; exact slice_lt hv⟩
end Go.Proofs.YtokdfdinnaghmaaDoor.Va
