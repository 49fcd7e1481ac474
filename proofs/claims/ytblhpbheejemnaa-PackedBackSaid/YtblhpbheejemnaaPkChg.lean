/- A change (a position and a byte) that comes in. -/
import Derived.Test.YtblhpbheejemnaaRcArg
namespace Go.Proofs.Ytblhpbheejemnaa
open Go.ChangeShapes Go.WideShapes Go.ChangeAt Go.RowKit Go.Deep

theorem u8_in' {H : Type} {enc : TypeId × Value → H} {w : World} {base : Nat} {spare : Nat → Bool} {held : Bool} {n : Nat} {v : Value} {x : DataW H × List MemPlace} (h : DataW.trod enc Try.prog w base spare held n 5 [v] = some x) :
    ∃ z : Int, v = .int .u8 z ∧ 0 ≤ z ∧ z ≤ 255 := by
  obtain ⟨z, hc, _, hw⟩ := DataW.trod_int Try.underlying5 h
  exact ⟨z, by simpa using hc, (u8_bounds hw).1, (u8_bounds hw).2⟩
set_option maxRecDepth 100000 in
theorem open_change {H : Type} {enc : TypeId × Value → H} {w : World} {base : Nat} {spare : Nat → Bool} {held : Bool} {r : Reach} {b0 : Nat} {v : Value} {d : DataW H} {p : List MemPlace}
    (hv : Value.okWide Try.prog w r b0 38 v) (h : DataW.Trod enc Try.prog w base spare held 38 v d p) : ∃ x y : Int, v = .agg #[.int .i64 x, .int .u8 y] ∧ 0 ≤ y ∧ y ≤ 255 := by
  obtain ⟨v0, v1, y0, y1, n, rfl, _, _, h0, h1⟩ := Go.Joins.open_agg2 Try.underlying38 (by kernel_rfl) (by kernel_rfl) hv h
  obtain ⟨a, rfl, ha⟩ := int_in' h0
  obtain ⟨b, rfl, hb⟩ := u8_in' h1
  exact ⟨a, b, rfl, hb⟩
end Go.Proofs.Ytblhpbheejemnaa
