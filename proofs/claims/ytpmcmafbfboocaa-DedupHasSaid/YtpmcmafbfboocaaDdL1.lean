/- Walks of the laws DedupChecks and DedupHas. -/
import Derived.Test.YtpmcmafbfboocaaDdX
namespace Go.Proofs.Ytpmcmafbfboocaa
open Go.RowKit

set_option maxRecDepth 100000 in
set_option maxHeartbeats 4000000 in
theorem walkDedupChecks (A : Option Addr) (n c : Nat) (l : List Rg) (W : World) (hA : RgR W A l) (hn : l.length = n) (hc : n ≤ c) (hm : c ≤ maxLen) (h0 : A = none → n = 0) :
    Calls Try.prog 3 #[.slice A n c] W fun e w' => e = .returned (.bool true) ∧ Below W.heap.size W w' := by
  have HAL := Lib.hid alive_any
  by_cases h : n ≤ 200
  · have d : decide (200 < (n : Int)) = false := decide_eq_false (by omega)
    have HC := Lib.hid (check_any A n c l W hA hn hc hm)
    have HR := Lib.hid (fun w (h : Below W.heap.size W w) => refCheck_any A n c l w (hA.below h) hn hc hm)
    obtain ⟨b, hb⟩ : ∃ b, canB l = b := ⟨_, rfl⟩
    rw [hb] at HC HR
    clear hA hn h0 hb
    cases b
    all_goals
      go_enter Try.func3, Try.ntmps3
      go_wp2_with (first
        | (go_at_call 11; (with_reducible refine HC.out.mono ?_); rintro e w1 ⟨rfl, hb1⟩; have HB1 := Lib.hid hb1; clear hb1)
        | (go_at_call 12; (with_reducible refine (HR.out _ HB1.out).mono ?_); rintro e w2 ⟨rfl, hb2⟩; have HB2 := Lib.hid (HB1.out.trans (hb2.mono HB1.out.size)); clear hb2)
        | (go_at_call 10; (with_reducible refine (HAL.out _).mono ?_); rintro e w3 ⟨rfl, hb3⟩; have HB3 := Lib.hid (HB2.out.trans (hb3.mono HB2.out.size)); clear hb3))
      go_ret
      exact ⟨rfl, HB3.out⟩
  · have d : decide (200 < (n : Int)) = true := decide_eq_true (by omega)
    clear hA hn h0
    go_enter Try.func3, Try.ntmps3
    go_wp2_with (go_at_call 10; (with_reducible refine (HAL.out _).mono ?_); rintro e w3 ⟨rfl, hb3⟩)
    go_ret
    exact ⟨rfl, hb3⟩
set_option maxRecDepth 100000 in
set_option maxHeartbeats 4000000 in
theorem walkDedupHas (A : Option Addr) (n c : Nat) (l : List Rg) (s x : Int) (W : World) (hA : RgR W A l) (hn : l.length = n) (hc : n ≤ c) (hm : c ≤ maxLen) (h0 : A = none → n = 0) :
    Calls Try.prog 4 #[.slice A n c, .int .i64 s, .int .i64 x] W fun e w' => e = .returned (.bool true) ∧ Below W.heap.size W w' := by
  have HAL := Lib.hid alive_any
  obtain ⟨v, hv⟩ : ∃ v, (decide (n ≤ 100) && canB l) = v := ⟨_, rfl⟩
  have HLT := Lib.hid (light_any A n c l W hA hn hc hm v hv)
  cases v
  · clear hA hn h0 hv
    go_enter Try.func4, Try.ntmps4
    go_wp2_with (first
      | (go_at_call 13; (with_reducible refine HLT.out.mono ?_); rintro e w1 ⟨rfl, hb1⟩; have HB1 := Lib.hid hb1; clear hb1)
      | (go_at_call 10; (with_reducible refine (HAL.out _).mono ?_); rintro e w3 ⟨rfl, hb3⟩; have HB3 := Lib.hid (HB1.out.trans (hb3.mono HB1.out.size)); clear hb3))
    go_ret
    exact ⟨rfl, HB3.out⟩
  · rw [Bool.and_eq_true, decide_eq_true_eq] at hv
    have hl := canB_iff.1 hv.2
    have h6 : n ≤ 1000000 := by omega
    obtain ⟨b, hb⟩ : ∃ b, hasL l s x = b := ⟨_, rfl⟩
    obtain ⟨q, hq⟩ : ∃ q, cntL l = q := ⟨_, rfl⟩
    have HH := Lib.hid (fun w (h : Below W.heap.size W w) => has_is b A n c l s x hb w hl h6 (hA.below h) hn hc hm)
    have HHR := Lib.hid (fun w (h : Below W.heap.size W w) => refHas_any A n c l s x w hl (hA.below h) hn hc hm)
    have HC := Lib.hid (fun w (h : Below W.heap.size W w) => count_any A n c l w hl h6 (hA.below h) hn hc hm)
    have HCR := Lib.hid (fun w (h : Below W.heap.size W w) => refCount_any A n c l w hl h6 (hA.below h) hn hc hm)
    rw [hb] at HHR
    rw [hq] at HC HCR
    clear hA hn h0 hv hl hb hq
    cases b
    all_goals
      go_enter Try.func4, Try.ntmps4
      go_wp2_with (first
        | (go_at_call 13; (with_reducible refine HLT.out.mono ?_); rintro e w1 ⟨rfl, hb1⟩; have HB1 := Lib.hid hb1; clear hb1)
        | (go_at_call 14; (with_reducible refine (HH.out _ HB1.out).mono ?_); rintro e w2 ⟨rfl, hb2⟩; have HB2 := Lib.hid (HB1.out.trans (hb2.mono HB1.out.size)); clear hb2)
        | (go_at_call 15; (with_reducible refine (HHR.out _ HB2.out).mono ?_); rintro e w3 ⟨rfl, rfl⟩)
        | (go_at_call 16; (with_reducible refine (HC.out _ HB2.out).mono ?_); rintro e w4 ⟨rfl, hb4⟩; have HB4 := Lib.hid (HB2.out.trans (hb4.mono HB2.out.size)); clear hb4)
        | (go_at_call 17; (with_reducible refine (HCR.out _ HB4.out).mono ?_); rintro e w5 ⟨rfl, hb5⟩; have HB5 := Lib.hid (HB4.out.trans (hb5.mono HB4.out.size)); clear hb5)
        | (go_at_call 10; (with_reducible refine (HAL.out _).mono ?_); rintro e w6 ⟨rfl, hb6⟩; have HB6 := Lib.hid (HB5.out.trans (hb6.mono HB5.out.size)); clear hb6))
      go_ret
      exact ⟨rfl, HB6.out⟩
end Go.Proofs.Ytpmcmafbfboocaa
