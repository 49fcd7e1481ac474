/- Walk of the law on Steps. -/
import Derived.Test.YtolgfkkjbefecaaCkF
namespace Go.Proofs.Ytolgfkkjbefecaa
open Go.RowKit Ck Go.Lib

namespace Ck
theorem refSteps_is {l : List Sp} {v : Int} (h : stepsE l = v) (A : Option Addr) (n c : Nat) (w : World) (hA : SpR w A l) (hn : l.length = n) (hc : n ≤ c) (hm : c ≤ maxLen) :
    Calls Try.prog 15 #[.slice A n c] w fun e w' => e = .returned (.int .i64 v) ∧ Below w.heap.size w w' := by
  subst h; exact refSteps_any A n c l w hA hn hc hm
end Ck
set_option maxRecDepth 100000 in
set_option maxHeartbeats 8000000 in
theorem walkCheckerSteps (A : Option Addr) (n c : Nat) (l : List Sp) (w : World) (hA : SpR w A l) (hn : l.length = n) (hc : n ≤ c) (hm : c ≤ maxLen) :
    Calls Try.prog 6 #[.slice A n c] w fun e w' => e = .returned (.bool true) ∧ Below w.heap.size w w' := by
  by_cases h1 : 100 < n
  · have d1 : decide ((100 : Int) < (n : Int)) = true := decide_eq_true (by omega)
    clear hA hn h1
    go_enter Try.func6, Try.ntmps6
    go_wp2_with (go_at_call 11; (with_reducible refine (awake_any _).mono ?_); rintro e w1 ⟨rfl, hb1⟩)
    go_ret
    exact ⟨rfl, hb1⟩
  · have d1 : decide ((100 : Int) < (n : Int)) = false := decide_eq_false (by omega)
    obtain ⟨v, hv⟩ : ∃ v, stepsE l = v := ⟨_, rfl⟩
    have HS := Lib.hid (fun (W : World) (h : SpR W A l) => steps_is hv A n c W h hn hc hm)
    have HR := Lib.hid (fun (W : World) (h : SpR W A l) => refSteps_is hv A n c W h hn hc hm)
    have HA := Lib.hid hA
    clear hA hn h1 hv
    go_enter Try.func6, Try.ntmps6
    go_wp2_with (first
      | (go_at_call 14; (with_reducible refine (HS.out _ HA.out).mono ?_); rintro e w1 ⟨rfl, hb1⟩; have HB1 := Lib.hid hb1; clear hb1)
      | (go_at_call 15; (with_reducible refine (HR.out _ (HA.out.below HB1.out rfl)).mono ?_); rintro e w2 ⟨rfl, hb2⟩; have HB2 := Lib.hid (HB1.out.trans (hb2.mono HB1.out.size)); clear hb2)
      | (go_at_call 11; (with_reducible refine (awake_any _).mono ?_); rintro e w3 ⟨rfl, hb3⟩; have HB3 := Lib.hid (HB2.out.trans (hb3.mono HB2.out.size)); clear hb3))
    go_ret
    exact ⟨rfl, HB3.out⟩
end Go.Proofs.Ytolgfkkjbefecaa
