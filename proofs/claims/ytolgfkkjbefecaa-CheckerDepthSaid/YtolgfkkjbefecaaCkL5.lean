/- Walk of the law on the depth, whole. -/
import Derived.Test.YtolgfkkjbefecaaCkL4
import Derived.Test.YtolgfkkjbefecaaLawKit
namespace Go.Proofs.Ytolgfkkjbefecaa
open Go.RowKit Ck Go.Lib Go.Maps

set_option maxRecDepth 100000 in
set_option maxHeartbeats 8000000 in
theorem walkCheckerDepth (a : Int) (b : Bool) (w : World) (ha : (Lit.int .u8 a).wf = true) :
    Calls Try.prog 5 #[.int .u8 a, .bool b] w fun e w' => e = .returned (.bool true) ∧ Below w.heap.size w w' := by
  obtain ⟨h0, h1⟩ := u8_bounds ha
  obtain ⟨n, rfl⟩ : ∃ n : Nat, a = (n : Int) := ⟨a.toNat, by omega⟩
  by_cases h : n ≤ 40
  · cases b
    · exact depthNot n h w
    · exact depthNum n h w
  · have d1 : decide ((40 : Int) < (n : Int)) = true := decide_eq_true (by omega)
    clear ha h0 h1 h
    go_enter Try.func5, Try.ntmps5
    go_wp2_with (go_at_call 11; (with_reducible refine (awake_any _).mono ?_); rintro e w1 ⟨rfl, hb1⟩)
    go_ret
    exact ⟨rfl, hb1⟩
end Go.Proofs.Ytolgfkkjbefecaa
