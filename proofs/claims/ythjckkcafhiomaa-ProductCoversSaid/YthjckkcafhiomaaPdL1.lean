/- Walk of the law on Check. -/
import Derived.Test.YthjckkcafhiomaaPdAw
namespace Go.Proofs.Ythjckkcafhiomaa
open Go.RowKit Pd

namespace Pd
theorem few_is (A : Option Addr) (n c : Nat) (l : List Pr) (v : Bool) (h : fewB l = v) (w : World) (hA : PrR w A l) (hn : l.length = n) (hc : n ≤ c) (hm : c ≤ maxLen) :
    Calls Try.prog 8 #[.slice A n c] w fun e w' => e = .returned (.bool v) ∧ w = w' := by
  subst h; exact few_any A n c l w hA hn hc hm
theorem asc_is (A : Option Addr) (n c : Nat) (l : List Pr) (v : Bool) (h : asc l = v) (w : World) (hA : PrR w A l) (hn : l.length = n) (h6 : n ≤ 1000000) :
    Calls Try.prog 12 #[.slice A n c] w fun e w' => e = .returned (.bool v) ∧ Below w.heap.size w w' := by
  subst h; exact refAsc_any A n c l w hA hn h6
end Pd
set_option maxRecDepth 100000 in
set_option maxHeartbeats 8000000 in
theorem walkProductChecks (A : Option Addr) (n c : Nat) (l : List Pr) (w : World) (hA : PrR w A l) (hn : l.length = n) (hc : n ≤ c) (hm : c ≤ maxLen) :
    Calls Try.prog 3 #[.slice A n c] w fun e w' => e = .returned (.bool true) ∧ Below w.heap.size w w' := by
  obtain ⟨v, hv⟩ : ∃ v, fewB l = v := ⟨_, rfl⟩
  have HF := Lib.hid (few_is A n c l v hv w hA hn hc hm)
  have HV := Lib.hid hv; have HA := Lib.hid hA; have HN := Lib.hid hn
  clear hA hn hc hm hv
  cases v
  · go_enter Try.func3, Try.ntmps3
    go_wp2_with (first
      | (go_at_call 8; (with_reducible refine HF.out.mono ?_); rintro e w1 ⟨rfl, rfl⟩)
      | (go_at_call 9; (with_reducible refine (awake_any _).mono ?_); rintro e w1 ⟨rfl, hb1⟩))
    go_ret
    exact ⟨rfl, hb1⟩
  · have hle : n ≤ 1000000 := by have := few_len HV.out; have := HN.out; omega
    obtain ⟨ev, hev⟩ : ∃ ev, ckL l = ev := ⟨_, rfl⟩
    have HC := Lib.hid (fun (W : World) (h : PrR W A l) => check_any A n c l W h HN.out hle)
    have HR := Lib.hid (fun (W : World) (h : PrR W A l) => refCheck_any A n c l W h HN.out hle)
    rw [hev] at HC HR
    clear hev
    go_enter Try.func3, Try.ntmps3
    go_wp2_with (first
      | (go_at_call 8; (with_reducible refine HF.out.mono ?_); rintro e w1 ⟨rfl, rfl⟩)
      | (go_at_call 10; (with_reducible refine (HC.out _ HA.out).mono ?_); rintro e w1 ⟨rfl, hb1⟩; have HB1 := Lib.hid hb1; clear hb1)
      | (go_at_call 11; (with_reducible refine (HR.out _ (HA.out.below HB1.out)).mono ?_); rintro e w2 ⟨rfl, hb2⟩; have HB2 := Lib.hid (HB1.out.trans (hb2.mono HB1.out.size)); clear hb2)
      | (go_at_call 9; (with_reducible refine (awake_any _).mono ?_); rintro e w3 ⟨rfl, hb3⟩; have HB3 := Lib.hid (HB2.out.trans (hb3.mono HB2.out.size)); clear hb3))
    go_ret
    exact ⟨rfl, HB3.out⟩
end Go.Proofs.Ythjckkcafhiomaa
