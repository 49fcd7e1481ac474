/- How a record that comes in reads. -/
import Derived.Test.YtokdfdinnaghmaaDoorLawKit
import Derived.Test.YtokdfdinnaghmaaDoorRcM
import Derived.Deep.Slices
import Derived.Deep.Fields
import Derived.ChangeSame
import Derived.Lib.SmallJoins
namespace Go.Proofs.YtokdfdinnaghmaaDoor
open Go.ChangeShapes Go.WideShapes Go.ChangeAt Go.RowKit Go.Deep

theorem int_in' {H : Type} {enc : TypeId × Value → H} {w : World} {base : Nat} {spare : Nat → Bool} {held : Bool} {n : Nat} {v : Value} {x : DataW H × List MemPlace} (h : DataW.trod enc Tryd.prog w base spare held n 3 [v] = some x) :
    ∃ z : Int, v = .int .i64 z ∧ -9223372036854775808 ≤ z ∧ z ≤ 9223372036854775807 := by
  obtain ⟨z, hc, _, hw⟩ := DataW.trod_int Tryd.underlying3 h
  exact ⟨z, by simpa using hc, (i64_bounds hw).1, (i64_bounds hw).2⟩
theorem str_in' {H : Type} {enc : TypeId × Value → H} {w : World} {base : Nat} {spare : Nat → Bool} {held : Bool} {n : Nat} {v : Value} {x : DataW H × List MemPlace} (h : DataW.trod enc Tryd.prog w base spare held n 9 [v] = some x) :
    ∃ z : ByteArray, v = .string z ∧ z.size ≤ maxLen := by
  obtain ⟨z, hc, _, hw⟩ := DataW.trod_string (cs := [v]) Tryd.underlying9 h
  exact ⟨z, by simpa using hc, hw⟩
theorem bool_in' {H : Type} {enc : TypeId × Value → H} {w : World} {base : Nat} {spare : Nat → Bool} {held : Bool} {n : Nat} {v : Value} {x : DataW H × List MemPlace} (h : DataW.trod enc Tryd.prog w base spare held n 4 [v] = some x) :
    ∃ z : Bool, v = .bool z := by
  obtain ⟨z, hc, _⟩ := DataW.trod_bool Tryd.underlying4 h
  exact ⟨z, by simpa using hc⟩
theorem array12 {α : Type} {cs : Array α} (h : cs.size = 12) : ∃ c0 c1 c2 c3 c4 c5 c6 c7 c8 c9 c10 c11, cs = #[c0, c1, c2, c3, c4, c5, c6, c7, c8, c9, c10, c11] := by
  obtain ⟨l⟩ := cs
  match l, h with
  | [c0, c1, c2, c3, c4, c5, c6, c7, c8, c9, c10, c11], _ => exact ⟨c0, c1, c2, c3, c4, c5, c6, c7, c8, c9, c10, c11, rfl⟩
/-- The numbers of a record are words. -/
structure Rc.Nums (r : Rc) : Prop where
  ns0 : -9223372036854775808 ≤ r.s0 ∧ r.s0 ≤ 9223372036854775807
  ns1 : -9223372036854775808 ≤ r.s1 ∧ r.s1 ≤ 9223372036854775807
  ns2 : -9223372036854775808 ≤ r.s2 ∧ r.s2 ≤ 9223372036854775807
  ns5 : -9223372036854775808 ≤ r.s5 ∧ r.s5 ≤ 9223372036854775807
  ns6 : -9223372036854775808 ≤ r.s6 ∧ r.s6 ≤ 9223372036854775807
  ns7 : -9223372036854775808 ≤ r.s7 ∧ r.s7 ≤ 9223372036854775807
  ns8 : -9223372036854775808 ≤ r.s8 ∧ r.s8 ≤ 9223372036854775807
  ns10 : -9223372036854775808 ≤ r.s10 ∧ r.s10 ≤ 9223372036854775807
set_option maxRecDepth 100000 in
set_option maxHeartbeats 2000000 in
theorem open_rec {H : Type} {enc : TypeId × Value → H} {w : World} {base : Nat} {spare : Nat → Bool} {held : Bool} {r : Reach} {b0 : Nat} {v : Value} {d : DataW H} {p : List MemPlace}
    (hv : Value.okWide Tryd.prog w r b0 23 v) (h : DataW.Trod enc Tryd.prog w base spare held 23 v d p) : ∃ rc : Rc, v = .agg rc.cells ∧ rc.Nums := by
  have he : Tryd.prog.underlying 23 = some (.struct (Tryd.prog.fieldsOf 23)) := by kernel_rfl
  have hC : Tryd.prog.cellsOf 23 = 12 := by kernel_rfl
  obtain ⟨cs, rfl, hsz⟩ := okWide_struct he hv
  obtain ⟨c0, c1, c2, c3, c4, c5, c6, c7, c8, c9, c10, c11, rfl⟩ := array12 (hsz.trans hC)
  obtain ⟨fuel, hf⟩ := h
  obtain ⟨ys, n', hn', hy, hlen, hyl, hfl⟩ := DataW.trod_struct he hf
  have h0 := hfl 0 _ rfl
  have e0 : ys[0]? = some (ys[0]'(by rw [hyl]; decide)) := List.getElem?_eq_getElem _
  rw [e0] at h0
  have h1 := hfl 1 _ rfl
  have e1 : ys[1]? = some (ys[1]'(by rw [hyl]; decide)) := List.getElem?_eq_getElem _
  rw [e1] at h1
  have h2 := hfl 2 _ rfl
  have e2 : ys[2]? = some (ys[2]'(by rw [hyl]; decide)) := List.getElem?_eq_getElem _
  rw [e2] at h2
  have h3 := hfl 3 _ rfl
  have e3 : ys[3]? = some (ys[3]'(by rw [hyl]; decide)) := List.getElem?_eq_getElem _
  rw [e3] at h3
  have h4 := hfl 4 _ rfl
  have e4 : ys[4]? = some (ys[4]'(by rw [hyl]; decide)) := List.getElem?_eq_getElem _
  rw [e4] at h4
  have h5 := hfl 5 _ rfl
  have e5 : ys[5]? = some (ys[5]'(by rw [hyl]; decide)) := List.getElem?_eq_getElem _
  rw [e5] at h5
  have h6 := hfl 6 _ rfl
  have e6 : ys[6]? = some (ys[6]'(by rw [hyl]; decide)) := List.getElem?_eq_getElem _
  rw [e6] at h6
  have h7 := hfl 7 _ rfl
  have e7 : ys[7]? = some (ys[7]'(by rw [hyl]; decide)) := List.getElem?_eq_getElem _
  rw [e7] at h7
  have h8 := hfl 8 _ rfl
  have e8 : ys[8]? = some (ys[8]'(by rw [hyl]; decide)) := List.getElem?_eq_getElem _
  rw [e8] at h8
  have h9 := hfl 9 _ rfl
  have e9 : ys[9]? = some (ys[9]'(by rw [hyl]; decide)) := List.getElem?_eq_getElem _
  rw [e9] at h9
  have h10 := hfl 10 _ rfl
  have e10 : ys[10]? = some (ys[10]'(by rw [hyl]; decide)) := List.getElem?_eq_getElem _
  rw [e10] at h10
  have h11 := hfl 11 _ rfl
  have e11 : ys[11]? = some (ys[11]'(by rw [hyl]; decide)) := List.getElem?_eq_getElem _
  rw [e11] at h11
  obtain ⟨u0, hu0, a0, b0⟩ := int_in' (v := c0) h0
  obtain ⟨u1, hu1, a1, b1⟩ := int_in' (v := c1) h1
  obtain ⟨u2, hu2, a2, b2⟩ := int_in' (v := c2) h2
  obtain ⟨u3, hu3, a3⟩ := str_in' (v := c3) h3
  obtain ⟨u4, hu4, a4⟩ := str_in' (v := c4) h4
  obtain ⟨u5, hu5, a5, b5⟩ := int_in' (v := c5) h5
  obtain ⟨u6, hu6, a6, b6⟩ := int_in' (v := c6) h6
  obtain ⟨u7, hu7, a7, b7⟩ := int_in' (v := c7) h7
  obtain ⟨u8, hu8, a8, b8⟩ := int_in' (v := c8) h8
  obtain ⟨u9, hu9⟩ := bool_in' (v := c9) h9
  obtain ⟨u10, hu10, a10, b10⟩ := int_in' (v := c10) h10
  obtain ⟨u11, hu11⟩ := bool_in' (v := c11) h11
  subst hu0 hu1 hu2 hu3 hu4 hu5 hu6 hu7 hu8 hu9 hu10 hu11
  exact ⟨⟨u0, u1, u2, u3, u4, u5, u6, u7, u8, u9, u10, u11⟩, rfl, ⟨⟨a0, b0⟩, ⟨a1, b1⟩, ⟨a2, b2⟩, ⟨a5, b5⟩, ⟨a6, b6⟩, ⟨a7, b7⟩, ⟨a8, b8⟩, ⟨a10, b10⟩⟩⟩
end Go.Proofs.YtokdfdinnaghmaaDoor
