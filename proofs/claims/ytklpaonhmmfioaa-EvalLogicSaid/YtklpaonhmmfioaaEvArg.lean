/- How the attributes of a usage come in. -/
import Derived.Test.YtklpaonhmmfioaaEvM
import Derived.Test.YtklpaonhmmfioaaCkArg
namespace Go.Proofs.Ytklpaonhmmfioaa.Ck
open Go.ChangeShapes Go.WideShapes Go.ChangeAt Go.RowKit Go.Deep Go.Lib

theorem array9 {α : Type} {cs : Array α} (h : cs.size = 9) : ∃ c0 c1 c2 c3 c4 c5 c6 c7 c8, cs = #[c0, c1, c2, c3, c4, c5, c6, c7, c8] := by
  obtain ⟨l⟩ := cs
  match l, h with
  | [c0, c1, c2, c3, c4, c5, c6, c7, c8], _ => exact ⟨c0, c1, c2, c3, c4, c5, c6, c7, c8, rfl⟩
set_option maxRecDepth 100000 in
set_option maxHeartbeats 2000000 in
theorem open_env {H : Type} {enc : TypeId × Value → H} {w : World} {base : Nat} {spare : Nat → Bool} {held : Bool} {r : Reach} {b0 : Nat} {v : Value} {d : DataW H} {p : List MemPlace}
    (hv : Value.okWide Try.prog w r b0 26 v) (h : DataW.Trod enc Try.prog w base spare held 26 v d p) : ∃ e : En, v = .agg #[.int .i64 e.a0, .int .i64 e.a1, .int .i64 e.a2, .int .i64 e.a3, .int .i64 e.a4, .int .i64 e.a5, .string e.zn, .string e.bn, .bool e.fm] := by
  have he : Try.prog.underlying 26 = some (.struct (Try.prog.fieldsOf 26)) := by kernel_rfl
  have hC : Try.prog.cellsOf 26 = 9 := by kernel_rfl
  obtain ⟨cs, rfl, hsz⟩ := okWide_struct he hv
  obtain ⟨c0, c1, c2, c3, c4, c5, c6, c7, c8, rfl⟩ := array9 (hsz.trans hC)
  obtain ⟨fuel, hf⟩ := h
  obtain ⟨ys, n', hn', hy, hlen, hyl, hfl⟩ := DataW.trod_struct he hf
  have h0 := hfl 0 _ rfl
  have e0 : ys[0]? = some (ys[0]'(by rw [hyl]; decide)) := List.getElem?_eq_getElem _
  rw [e0] at h0
  have h1 := hfl 1 _ rfl
  have e1 : ys[1]? = some (ys[1]'(by rw [hyl]; decide)) := List.getElem?_eq_getElem _
  rw [e1] at h1
  have h2 := hfl 2 _ rfl
  have e2 : ys[2]? = some (ys[2]'(by rw [hyl]; decide)) := List.getElem?_eq_getElem _
  rw [e2] at h2
  have h3 := hfl 3 _ rfl
  have e3 : ys[3]? = some (ys[3]'(by rw [hyl]; decide)) := List.getElem?_eq_getElem _
  rw [e3] at h3
  have h4 := hfl 4 _ rfl
  have e4 : ys[4]? = some (ys[4]'(by rw [hyl]; decide)) := List.getElem?_eq_getElem _
  rw [e4] at h4
  have h5 := hfl 5 _ rfl
  have e5 : ys[5]? = some (ys[5]'(by rw [hyl]; decide)) := List.getElem?_eq_getElem _
  rw [e5] at h5
  have h6 := hfl 6 _ rfl
  have e6 : ys[6]? = some (ys[6]'(by rw [hyl]; decide)) := List.getElem?_eq_getElem _
  rw [e6] at h6
  have h7 := hfl 7 _ rfl
  have e7 : ys[7]? = some (ys[7]'(by rw [hyl]; decide)) := List.getElem?_eq_getElem _
  rw [e7] at h7
  have h8 := hfl 8 _ rfl
  have e8 : ys[8]? = some (ys[8]'(by rw [hyl]; decide)) := List.getElem?_eq_getElem _
  rw [e8] at h8
  obtain ⟨u0, hu0⟩ := int_inV (v := c0) h0
  obtain ⟨u1, hu1⟩ := int_inV (v := c1) h1
  obtain ⟨u2, hu2⟩ := int_inV (v := c2) h2
  obtain ⟨u3, hu3⟩ := int_inV (v := c3) h3
  obtain ⟨u4, hu4⟩ := int_inV (v := c4) h4
  obtain ⟨u5, hu5⟩ := int_inV (v := c5) h5
  obtain ⟨u6, hu6, a6⟩ := str_inV (v := c6) h6
  obtain ⟨u7, hu7, a7⟩ := str_inV (v := c7) h7
  obtain ⟨u8, hu8⟩ := bool_inV (v := c8) h8
  subst hu0 hu1 hu2 hu3 hu4 hu5 hu6 hu7 hu8
  exact ⟨⟨u0, u1, u2, u3, u4, u5, u6, u7, u8⟩, rfl⟩
end Go.Proofs.Ytklpaonhmmfioaa.Ck
