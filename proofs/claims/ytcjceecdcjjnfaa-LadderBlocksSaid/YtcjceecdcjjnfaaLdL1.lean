/- Walks: the laws' awake; the laws on prices. -/
import Derived.Test.YtcjceecdcjjnfaaLdU
namespace Go.Proofs.Ytcjceecdcjjnfaa.Ck
open Go Go.Lib Go.RowKit Go.Proofs.Ytcjceecdcjjnfaa

theorem litc (w : World) (cs : Array Value) (t : TypeId) (i : Nat) : (w.alloc (.cells cs t)).cell? ⟨w.heap.size, i, none⟩ = cs[i]? := (Blk.new w t cs).cell i
theorem SpR.two (w : World) (a b : Sp) : SpR (w.alloc (.cells #[.int .i64 a.up, .int .i64 a.qu, .int .i64 a.pr, .int .i64 b.up, .int .i64 b.qu, .int .i64 b.pr] 37)) (some ⟨w.heap.size, 0, none⟩) [a, b] := fun k hk => by
  match k, hk with
  | 0, _ => exact ⟨_, 0, rfl, by simp, litc _ _ _ _, litc _ _ _ _, litc _ _ _ _⟩
  | 1, _ => exact ⟨_, 0, rfl, by simp, litc _ _ _ _, litc _ _ _ _, litc _ _ _ _⟩
theorem SpR.one (w : World) (a : Sp) : SpR (w.alloc (.cells #[.int .i64 a.up, .int .i64 a.qu, .int .i64 a.pr] 37)) (some ⟨w.heap.size, 0, none⟩) [a] := fun k hk => by
  match k, hk with
  | 0, _ => exact ⟨_, 0, rfl, by simp, litc _ _ _ _, litc _ _ _ _, litc _ _ _ _⟩
def lad : List Sp := [⟨60, 60, 1000⟩, ⟨0, 1, 20⟩]
theorem lad1 : pcV lad 61 = 1020 ∧ pcE lad 61 = 0 := by decide +kernel
theorem lad2 : pcV lad 100 = 1800 ∧ pcE lad 100 = 0 := by decide +kernel
theorem lad3 : btV lad 50 20 = 200 ∧ btE lad 50 20 = 0 := by decide +kernel
theorem lad4 : IsU lad 0 1019 60 := .inr (by decide +kernel)
theorem lad5 : IsU lad 50 0 10 := .inr (by decide +kernel)
theorem lad6 : btV lad 0 1 = 1000 := by decide +kernel
theorem lad7 : btV lad 60 1 = 20 := by decide +kernel
theorem marginal_is {l : List Sp} {f v : Int} (hv : btV l f 1 = v) (A : Option Addr) (m c : Nat) (w : World) (hA : SpR w A l) (hm : l.length = m) (hc : m ≤ c) (hcm : c ≤ maxLen) :
    Calls Try.prog 14 #[.slice A m c, .int .i64 f] w fun e w' => e = .returned (.int .i64 v) ∧ Below w.heap.size w w' := by
  subst hv; exact marginal_any A m c l f w hA hm hc hcm

set_option maxRecDepth 100000 in
set_option maxHeartbeats 8000000 in
theorem awake_any (w : World) : Calls Try.prog 9 #[] w fun e w' => e = .returned (.bool true) ∧ Below w.heap.size w w' := by
  obtain ⟨W, hW⟩ : ∃ W, w.alloc (.cells #[.int .i64 60, .int .i64 60, .int .i64 1000, .int .i64 0, .int .i64 1, .int .i64 20] 37) = W := ⟨_, rfl⟩
  obtain ⟨g, hg⟩ : ∃ g, w.heap.size = g := ⟨_, rfl⟩
  have hA : SpR W (some ⟨g, 0, none⟩) lad := hW ▸ hg ▸ SpR.two w ⟨60, 60, 1000⟩ ⟨0, 1, 20⟩
  have HB := Lib.hid (hW ▸ below_one w _ : Below w.heap.size w W)
  have HA := Lib.hid (fun (V : World) (h : Below W.heap.size W V) => (hA.below h rfl : SpR V (some ⟨g, 0, none⟩) lad))
  have H1 := Lib.hid (fun (V : World) (h : Below W.heap.size W V) => Price_is lad1.1 lad1.2 (some ⟨g, 0, none⟩) 2 2 V (HA.out V h) rfl (Nat.le_refl _) (by decide))
  have H2 := Lib.hid (fun (V : World) (h : Below W.heap.size W V) => Price_is lad2.1 lad2.2 (some ⟨g, 0, none⟩) 2 2 V (HA.out V h) rfl (Nat.le_refl _) (by decide))
  have H3 := Lib.hid (fun (V : World) (h : Below W.heap.size W V) => between_is lad3.1 lad3.2 (some ⟨g, 0, none⟩) 2 2 V (HA.out V h) rfl (Nat.le_refl _) (by decide))
  have H4 := Lib.hid (fun (V : World) (h : Below W.heap.size W V) => units_any (some ⟨g, 0, none⟩) 2 2 lad 0 1019 60 lad4 V (HA.out V h) rfl (Nat.le_refl _) (by decide))
  have H5 := Lib.hid (fun (V : World) (h : Below W.heap.size W V) => units_any (some ⟨g, 0, none⟩) 2 2 lad 50 0 10 lad5 V (HA.out V h) rfl (Nat.le_refl _) (by decide))
  have H6 := Lib.hid (fun (V : World) (h : Below W.heap.size W V) => marginal_is lad6 (some ⟨g, 0, none⟩) 2 2 V (HA.out V h) rfl (Nat.le_refl _) (by decide))
  have H7 := Lib.hid (fun (V : World) (h : Below W.heap.size W V) => marginal_is lad7 (some ⟨g, 0, none⟩) 2 2 V (HA.out V h) rfl (Nat.le_refl _) (by decide))
  clear hA
  go_enter Try.func9, Try.ntmps9
  go_upto_region 2 with fail
  clear hW hg
  go_wp2_with (first
    | (go_at_call 10; (with_reducible refine (H1.out _ (Below.refl _ _)).mono ?_); rintro e w1 ⟨rfl, hb⟩; have HB1 := Lib.hid hb; clear hb)
    | (go_at_call 10; (with_reducible refine (H2.out _ HB1.out).mono ?_); rintro e w2 ⟨rfl, hb⟩; have HB2 := Lib.hid (below_then HB1.out (Nat.le_refl _) hb); clear hb)
    | (go_at_call 12; (with_reducible refine (H3.out _ HB2.out).mono ?_); rintro e w3 ⟨rfl, hb⟩; have HB3 := Lib.hid (below_then HB2.out (Nat.le_refl _) hb); clear hb)
    | (go_at_call 16; (with_reducible refine (H4.out _ HB3.out).mono ?_); rintro e w4 ⟨rfl, hb⟩; have HB4 := Lib.hid (below_then HB3.out (Nat.le_refl _) hb); clear hb)
    | (go_at_call 16; (with_reducible refine (H5.out _ HB4.out).mono ?_); rintro e w5 ⟨rfl, hb⟩; have HB5 := Lib.hid (below_then HB4.out (Nat.le_refl _) hb); clear hb)
    | (go_at_call 14; (with_reducible refine (H6.out _ HB5.out).mono ?_); rintro e w6 ⟨rfl, hb⟩; have HB6 := Lib.hid (below_then HB5.out (Nat.le_refl _) hb); clear hb)
    | (go_at_call 14; (with_reducible refine (H7.out _ HB6.out).mono ?_); rintro e w7 ⟨rfl, hb⟩; have HB7 := Lib.hid (below_then HB6.out (Nat.le_refl _) hb); clear hb))
  go_ret
  exact ⟨rfl, below_then HB.out (Nat.le_refl _) HB7.out⟩
end Go.Proofs.Ytcjceecdcjjnfaa.Ck
namespace Go.Proofs.Ytcjceecdcjjnfaa
open Go.RowKit Ck Go.Lib

set_option maxRecDepth 100000 in
set_option maxHeartbeats 8000000 in
theorem walkLadderPrices (A : Option Addr) (m c : Nat) (l : List Sp) (n : Int) (w : World) (hA : SpR w A l) (hm : l.length = m) (hc : m ≤ c) (hcm : c ≤ maxLen) :
    Calls Try.prog 3 #[.slice A m c, .int .i64 n] w fun e w' => e = .returned (.bool true) ∧ Below w.heap.size w w' := by
  by_cases h1 : 100 < m
  · have d1 : decide ((100 : Int) < (m : Int)) = true := decide_eq_true (by omega)
    clear hA hm h1
    go_enter Try.func3, Try.ntmps3
    go_wp2_with (go_at_call 9; (with_reducible refine (awake_any _).mono ?_); rintro e w1 ⟨rfl, hb1⟩)
    go_ret
    exact ⟨rfl, hb1⟩
  · have d1 : decide ((100 : Int) < (m : Int)) = false := decide_eq_false (by omega)
    obtain ⟨v, hv⟩ : ∃ v, pcV l n = v := ⟨_, rfl⟩
    obtain ⟨x, hx⟩ : ∃ x, pcE l n = x := ⟨_, rfl⟩
    have H1 := Lib.hid (Price_is hv hx A m c w hA hm hc hcm)
    have H2 := Lib.hid (fun (V : World) (h : Below w.heap.size w V) => refPrice_is hv hx A m c V (hA.below h rfl) hm hc hcm)
    clear hA hm h1 hv hx
    go_enter Try.func3, Try.ntmps3
    go_wp2_with (first
      | (go_at_call 10; (with_reducible refine H1.out.mono ?_); rintro e w1 ⟨rfl, hb⟩; have HB1 := Lib.hid hb; clear hb)
      | (go_at_call 11; (with_reducible refine (H2.out _ HB1.out).mono ?_); rintro e w2 ⟨rfl, hb⟩; have HB2 := Lib.hid (below_then HB1.out (Nat.le_refl _) hb); clear hb)
      | (go_at_call 9; (with_reducible refine (awake_any _).mono ?_); rintro e w3 ⟨rfl, hb⟩; have HB3 := Lib.hid (below_then HB2.out (Nat.le_refl _) hb); clear hb))
    go_ret
    exact ⟨rfl, HB3.out⟩

theorem wf_range {a : Int} (h : (Lit.int .i64 a).wf = true) : -9223372036854775808 ≤ a ∧ a ≤ 9223372036854775807 := by simpa [Lit.wf, IntKind.min, IntKind.max, IntKind.signed, IntKind.bits] using h

set_option maxRecDepth 100000 in
set_option maxHeartbeats 8000000 in
theorem walkLadderBetween (A : Option Addr) (m c : Nat) (l : List Sp) (f n : Int) (w : World) (hA : SpR w A l) (hm : l.length = m) (hc : m ≤ c) (hcm : c ≤ maxLen) (hfr0 : (Lit.int .i64 f).wf = true) (hnr0 : (Lit.int .i64 n).wf = true) :
    Calls Try.prog 4 #[.slice A m c, .int .i64 f, .int .i64 n] w fun e w' => e = .returned (.bool true) ∧ Below w.heap.size w w' := by
  have hfr := wf_range hfr0
  have hnr := wf_range hnr0
  by_cases h1 : 100 < m
  · have d1 : decide ((100 : Int) < (m : Int)) = true := decide_eq_true (by omega)
    clear hA hm h1
    go_enter Try.func4, Try.ntmps4
    go_wp2_with (go_at_call 9; (with_reducible refine (awake_any _).mono ?_); rintro e w1 ⟨rfl, hb1⟩)
    go_ret
    exact ⟨rfl, hb1⟩
  · have d1 : decide ((100 : Int) < (m : Int)) = false := decide_eq_false (by omega)
    obtain ⟨v, hv⟩ : ∃ v, btV l f n = v := ⟨_, rfl⟩
    obtain ⟨x, hx⟩ : ∃ x, btE l f n = x := ⟨_, rfl⟩
    obtain ⟨y, hy⟩ : ∃ y, btV l f 1 = y := ⟨_, rfl⟩
    have H1 := Lib.hid (between_is hv hx A m c w hA hm hc hcm)
    have H2 := Lib.hid (fun (V : World) (h : Below w.heap.size w V) => refBetween_is hv hx A m c V (hA.below h rfl) hm hc hcm hfr hnr)
    have H3 := Lib.hid (fun (V : World) (h : Below w.heap.size w V) => marginal_is hy A m c V (hA.below h rfl) hm hc hcm)
    have H4 := Lib.hid (fun (V : World) (h : Below w.heap.size w V) => hy ▸ refMarginal_any A m c l f V (hA.below h rfl) hm hc hcm hfr)
    clear hA hm h1 hv hx hy hfr hnr hfr0 hnr0
    go_enter Try.func4, Try.ntmps4
    go_wp2_with (first
      | (go_at_call 12; (with_reducible refine H1.out.mono ?_); rintro e w1 ⟨rfl, hb⟩; have HB1 := Lib.hid hb; clear hb)
      | (go_at_call 13; (with_reducible refine (H2.out _ HB1.out).mono ?_); rintro e w2 ⟨rfl, hb⟩; have HB2 := Lib.hid (below_then HB1.out (Nat.le_refl _) hb); clear hb)
      | (go_at_call 14; (with_reducible refine (H3.out _ HB2.out).mono ?_); rintro e w3 ⟨rfl, hb⟩; have HB3 := Lib.hid (below_then HB2.out (Nat.le_refl _) hb); clear hb)
      | (go_at_call 15; (with_reducible refine (H4.out _ HB3.out).mono ?_); rintro e w4 ⟨rfl, hb⟩; have HB4 := Lib.hid (below_then HB3.out (Nat.le_refl _) hb); clear hb)
      | (go_at_call 9; (with_reducible refine (awake_any _).mono ?_); rintro e w5 ⟨rfl, hb⟩; have HB5 := Lib.hid (below_then HB4.out (Nat.le_refl _) hb); clear hb))
    go_ret
    exact ⟨rfl, HB5.out⟩

set_option maxRecDepth 100000 in
set_option maxHeartbeats 8000000 in
theorem walkLadderUnits (A : Option Addr) (m c : Nat) (l : List Sp) (f am : Int) (w : World) (hA : SpR w A l) (hm : l.length = m) (hc : m ≤ c) (hcm : c ≤ maxLen) (hfr0 : (Lit.int .i64 f).wf = true) :
    Calls Try.prog 5 #[.slice A m c, .int .i64 f, .int .i64 am] w fun e w' => e = .returned (.bool true) ∧ Below w.heap.size w w' := by
  have hfr := wf_range hfr0
  by_cases h1 : 100 < m
  · have d1 : decide ((100 : Int) < (m : Int)) = true := decide_eq_true (by omega)
    clear hA hm h1
    go_enter Try.func5, Try.ntmps5
    go_wp2_with (go_at_call 9; (with_reducible refine (awake_any _).mono ?_); rintro e w1 ⟨rfl, hb1⟩)
    go_ret
    exact ⟨rfl, hb1⟩
  · have d1 : decide ((100 : Int) < (m : Int)) = false := decide_eq_false (by omega)
    obtain ⟨u, hu⟩ := isU_some l f am
    have H1 := Lib.hid (units_any A m c l f am u hu w hA hm hc hcm)
    have H2 := Lib.hid (fun (V : World) (h : Below w.heap.size w V) => refUnits_any A m c l f am u hu V (hA.below h rfl) hm hc hcm hfr)
    clear hA hm h1 hu hfr hfr0
    go_enter Try.func5, Try.ntmps5
    go_wp2_with (first
      | (go_at_call 16; (with_reducible refine H1.out.mono ?_); rintro e w1 ⟨rfl, hb⟩; have HB1 := Lib.hid hb; clear hb)
      | (go_at_call 17; (with_reducible refine (H2.out _ HB1.out).mono ?_); rintro e w2 ⟨rfl, hb⟩; have HB2 := Lib.hid (below_then HB1.out (Nat.le_refl _) hb); clear hb)
      | (go_at_call 9; (with_reducible refine (awake_any _).mono ?_); rintro e w3 ⟨rfl, hb⟩; have HB3 := Lib.hid (below_then HB2.out (Nat.le_refl _) hb); clear hb))
    go_ret
    exact ⟨rfl, HB3.out⟩
end Go.Proofs.Ytcjceecdcjjnfaa
