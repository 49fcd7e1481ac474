/- How windows that come in read. -/
import Derived.Test.YtpmcmafbfboocaaDoorRows
import Derived.Test.YtpmcmafbfboocaaDoorRcArg
import Derived.Test.YtpmcmafbfboocaaDoorVaN
namespace Go.Proofs.YtpmcmafbfboocaaDoor.Va
open Go.ChangeShapes Go.WideShapes Go.ChangeAt Go.RowKit Go.Deep

theorem open_window {H : Type} {enc : TypeId × Value → H} {w : World} {base : Nat} {spare : Nat → Bool} {held : Bool} {r : Reach} {b0 : Nat} {v : Value} {d : DataW H} {p : List MemPlace}
    (hv : Value.okWide Tryd.prog w r b0 25 v) (h : DataW.Trod enc Tryd.prog w base spare held 25 v d p) : ∃ x y : Int, v = .agg #[.int .i64 x, .int .i64 y] ∧ (-9223372036854775808 ≤ x ∧ x ≤ 9223372036854775807) ∧ (-9223372036854775808 ≤ y ∧ y ≤ 9223372036854775807) := by
  obtain ⟨v0, v1, y0, y1, n, rfl, _, _, h0, h1⟩ := Go.Joins.open_agg2 Tryd.underlying25 (by kernel_rfl) (by kernel_rfl) hv h
  obtain ⟨a, rfl, ha⟩ := int_in' h0
  obtain ⟨b, rfl, hb⟩ := int_in' h1
  exact ⟨a, b, rfl, ha, hb⟩
end Go.Proofs.YtpmcmafbfboocaaDoor.Va
