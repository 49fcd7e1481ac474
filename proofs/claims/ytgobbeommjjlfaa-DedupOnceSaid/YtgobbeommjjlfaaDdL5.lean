/- Walk of the law DedupCounts. -/
import Derived.Test.YtgobbeommjjlfaaDdL4
import Derived.Lib.QuietBelow
namespace Go.Proofs.Ytgobbeommjjlfaa
open Go.RowKit

theorem hasIs (v : Bool) (A : Option Addr) (n c : Nat) (l : List Rg) (s x : Int) (hv : hasL l s x = v) (w W : World) (hl : Can l) (h6 : n ≤ 1000000) (hA : RgR w A l) (hn : l.length = n) (hc : n ≤ c) (hm : c ≤ maxLen) (hb : Below w.heap.size w W) :
    Calls Try.prog 14 #[.slice A n c, .int .i64 s, .int .i64 x] W fun e w' => e = .returned (.bool v) ∧ Below W.heap.size W w' := has_is v A n c l s x hv W hl h6 (hA.below hb) hn hc hm
theorem rc_at {w : World} {A : Option Addr} {P : List Rc} (h : Va.RecR w A P) {k : Nat} (hk : k < P.length) : ∃ b o, A = some ⟨b, o, none⟩ ∧ w.cell? ⟨b, o + k * 12, none⟩ = some (.int .i64 (P.getD k Va.rc0).s0) ∧ w.cell? ⟨b, o + k * 12 + 1, none⟩ = some (.int .i64 (P.getD k Va.rc0).s1) := by
  obtain ⟨b, o, e, _, hc⟩ := h k hk
  obtain ⟨e0, e1, _⟩ := hc.all
  exact ⟨b, o, e, e0, e1⟩
set_option maxRecDepth 100000 in
set_option maxHeartbeats 8000000 in
theorem walkDedupCounts (A : Option Addr) (n c : Nat) (l : List Rg) (B : Option Addr) (m d : Nat) (D : List Rc) (w : World) (hA : RgR w A l) (hn : l.length = n) (hc : n ≤ c) (hcm : c ≤ maxLen) (h0 : A = none → n = 0) (hB : Va.RecR w B D) (hm : D.length = m) (hd : m ≤ d) (hdm : d ≤ maxLen) (hBl : ∀ a, B = some a → a.block < w.heap.size) :
    Calls Try.prog 9 #[.slice A n c, .slice B m d] w fun e w' => e = .returned (.bool true) ∧ Below w.heap.size w w' := by
  have HAL := Lib.hid alive_any
  obtain ⟨v, hv⟩ : ∃ v, (decide (n ≤ 100) && canB l) = v := ⟨_, rfl⟩
  have HLT := Lib.hid (light_any A n c l w hA hn hc hcm v hv)
  cases v
  · clear hA hn h0 hv hB hm hBl
    go_enter Try.func9, Try.ntmps9
    go_wp2_with (first
      | (go_at_call 13; (with_reducible refine HLT.out.mono ?_); rintro e w1 ⟨rfl, hb1⟩; have HB1 := Lib.hid hb1; clear hb1)
      | (go_at_call 10; (with_reducible refine (HAL.out _).mono ?_); rintro e w3 ⟨rfl, hb3⟩; have HB3 := Lib.hid (HB1.out.trans (hb3.mono HB1.out.size)); clear hb3))
    go_ret
    exact ⟨rfl, HB3.out⟩
  · rw [Bool.and_eq_true, decide_eq_true_eq] at hv
    have hl := canB_iff.1 hv.2
    by_cases h60 : m ≤ 60
    · have dm : decide (60 < (m : Int)) = false := decide_eq_false (by omega)
      obtain ⟨hNc, hNlen⟩ := nowL_can (D := D) hl m
      obtain ⟨N, hN⟩ : ∃ N, nowL l D m = N := ⟨_, rfl⟩
      obtain ⟨P, hP⟩ : ∃ P, Va.pasN D (fltE l D) m = P := ⟨_, rfl⟩
      obtain ⟨J, hJ⟩ : ∃ J, Va.rejD D (fltE l D) m = J := ⟨_, rfl⟩
      have hcnt := cnt_now l D m
      have hpart := parted D (fltE l D) m
      have hseen : ∀ i, i < P.length → hasL l (P.getD i Va.rc0).s0 (P.getD i Va.rc0).s1 = false ∧ hasL N (P.getD i Va.rc0).s0 (P.getD i Va.rc0).s1 = true := fun i hi => by
        subst hP hN
        exact pas_seen hl hi rfl
      rw [hN] at hNc hNlen hcnt
      rw [hP] at hcnt hpart
      rw [hJ] at hpart
      have hPl : P.length ≤ 1000000 := by have := Va.pas_len (D := D) (E := fltE l D) (k := m); rw [hP] at this; omega
      obtain ⟨q, hq⟩ : ∃ q, N.length = q := ⟨_, rfl⟩
      obtain ⟨p, hp⟩ : ∃ p, P.length = p := ⟨_, rfl⟩
      obtain ⟨j, hj⟩ : ∃ j, J.length = j := ⟨_, rfl⟩
      rw [hq] at hNlen
      rw [hp] at hcnt hpart hPl
      rw [hj] at hpart
      have hcb := cnt_bound hl l.length (Nat.le_refl _)
      rw [List.take_length] at hcb
      obtain ⟨cl, hcl⟩ : ∃ cl, cntL l = cl := ⟨_, rfl⟩
      obtain ⟨cn, hcn⟩ : ∃ cn, cntL N = cn := ⟨_, rfl⟩
      rw [hcl] at hcnt hcb
      rw [hcn] at hcnt
      have HF := Lib.hid (fun W (h : Below w.heap.size w W) => filter_got A B n c m d l D W hl (hA.below h) hn h0 (hB.below h) (fun a ha => Nat.lt_of_lt_of_le (hBl a ha) h.size) hm (by omega) (by omega) hc hcm hd hdm hN hP hJ hq hp hj)
      have HHS := Lib.hid (fun i (hi : i < p) W (h : Below w.heap.size w W) => has_is false A n c l (P.getD i Va.rc0).s0 (P.getD i Va.rc0).s1 (hseen i (by omega)).1 W hl (by omega) (hA.below h) hn hc hcm)
      have HHN := Lib.hid (fun i (hi : i < p) A2 c2 W (h : RgR W A2 N) (h1 : q ≤ c2) (h2 : c2 ≤ maxLen) => has_is true A2 q c2 N (P.getD i Va.rc0).s0 (P.getD i Va.rc0).s1 (hseen i (by omega)).2 W hNc (by omega) h hq h1 h2)
      have HCN := Lib.hid (fun A2 c2 W (h : RgR W A2 N) (h1 : q ≤ c2) (h2 : c2 ≤ maxLen) => count_is cn A2 q c2 N hcn W hNc (by omega) h hq h1 h2)
      have HCL := Lib.hid (fun W (h : Below w.heap.size w W) => count_is cl A n c l hcl W hl (by omega) (hA.below h) hn hc hcm)
      have HCK := Lib.hid (fun A2 c2 W (h : RgR W A2 N) (h1 : q ≤ c2) (h2 : c2 ≤ maxLen) => check_any A2 q c2 N W h hq h1 h2)
      rw [canB_iff.2 hNc] at HCK
      have hcq : (cn == cl + (p : Int)) = true := by rw [hcnt]; simp
      have hpq : ((p : Int) + (j : Int) == (m : Int)) = true := by have : (p : Int) + (j : Int) = (m : Int) := (by omega); rw [this]; simp
      have hjl : (j : Int) ≤ 1000000 := by omega
      have hpl : (p : Int) ≤ 1000000 := by omega
      have HP := Lib.hid hp
      have hcl1 : 0 ≤ cl := by omega
      have hcl2 : cl ≤ 100000000000 := by have := hv.1; omega
      clear hA hn h0 hv hl hB hm hBl hN hP hJ hq hp hj h60 hseen hNc hcnt hpart hcb hcl hcn hNlen
      go_enter Try.func9, Try.ntmps9
      go_wp2_with (first
        | (go_at_call 13; (with_reducible refine HLT.out.mono ?_); rintro e w1 ⟨rfl, hb1⟩; have HB1 := Lib.hid hb1; clear hb1)
        | (go_at_call 21; (with_reducible refine (HF.out _ HB1.out).mono ?_); rintro e w2 ⟨A2, c2, A3, c3, A4, c4, rfl, g1, g2, g3, ⟨k1, k2, -⟩, -, -, hb2⟩; have HB2 := Lib.hid (HB1.out.trans (hb2.mono HB1.out.size)); have HX1 := Lib.hid g1; have HX2 := Lib.hid g2; have HK1 := Lib.hid k1; have HK2 := Lib.hid k2; clear g1 g2 g3 hb2 k1 k2))
      go_loopw [8] (fun iv wr => ∃ k : Nat, iv = .int .i64 k ∧ k ≤ p ∧ Hid (Below w2.heap.size w2 wr)) (fun iv _ => p - (intOf iv).toNat)
      case atStart => exact ⟨0, rfl, by omega, Lib.hid (Below.refl _ _)⟩
      case round =>
        obtain ⟨k, rfl, hk, HBW⟩ := hrel
        by_cases hlt : k < p
        · have hlt' : (k : Int) < (p : Int) := by omega
          have hk0 : (0 : Int) ≤ (k : Int) := by omega
          obtain ⟨b, o, rfl, e0, e1⟩ := rc_at (HX2.out.below HBW.out) (k := k) (by rw [HP.out]; exact hlt)
          have E1 := Lib.hid (fun W (h : Below wr.heap.size wr W) => HHS.out k hlt W ((HB2.out.trans (HBW.out.mono HB2.out.size)).trans (h.mono (Nat.le_trans HB2.out.size HBW.out.size))))
          have E2 := Lib.hid (fun W (h : Below wr.heap.size wr W) => HHN.out k hlt A2 c2 W ((HX1.out.below HBW.out).below h) HK1.out HK2.out)
          obtain ⟨x0, hx0⟩ : ∃ x, (P.getD k Va.rc0).s0 = x := ⟨_, rfl⟩
          obtain ⟨x1, hx1⟩ : ∃ x, (P.getD k Va.rc0).s1 = x := ⟨_, rfl⟩
          rw [hx0] at e0 E1 E2
          rw [hx1] at e1 E1 E2
          have r0 := cell_regrown e0
          have r1 := cell_regrown e1
          clear hx0 hx1
          go_wp2_with fail
          refine wp_region_quiet_below (by kernel_rfl) (by kernel_rfl) ?_
          iterate 27 (go_big_quiet_step (first | (with_reducible exact Calls.regrown_of (E1.out _ (below_regrown _ _ _))) | (with_reducible exact Calls.regrown_of (E2.out _ (below_regrown _ _ _)))))
          refine wpQuiet_nil ?_
          intro _ hw'
          obtain ⟨⟨dq, osq⟩, hw''⟩ := hw'
          subst hw''
          go_wp2_with fail
          go_roundw
          case rel => exact ⟨k + 1, by go_num, by omega, Lib.hid (HBW.out.trans ((below_regrown _ dq osq).mono HBW.out.size))⟩
          case measure => simp [intOf]; omega
        · obtain rfl : k = p := by omega
          have HBW2 := Lib.hid (HB2.out.trans (HBW.out.mono HB2.out.size))
          have HXW := Lib.hid (HX1.out.below HBW.out)
          go_wp2_with (first
            | (go_at_call 16; (with_reducible refine (HCN.out A2 c2 _ HXW.out HK1.out HK2.out).mono ?_); rintro e w5 ⟨rfl, hb5⟩; have HB5 := Lib.hid (HBW2.out.trans (hb5.mono HBW2.out.size)); have HX5 := Lib.hid (HXW.out.below hb5); clear hb5)
            | (go_at_call 16; (with_reducible refine (HCL.out _ HB5.out).mono ?_); rintro e w6 ⟨rfl, hb6⟩; have HB6 := Lib.hid (HB5.out.trans (hb6.mono HB5.out.size)); have HX6 := Lib.hid (HX5.out.below hb6); clear hb6)
            | (go_at_call 11; (with_reducible refine (HCK.out A2 c2 _ HX6.out HK1.out HK2.out).mono ?_); rintro e w7 ⟨rfl, hb7⟩; have HB7 := Lib.hid (HB6.out.trans (hb7.mono HB6.out.size)); clear hb7)
            | (go_at_call 10; (with_reducible refine (HAL.out _).mono ?_); rintro e w8 ⟨rfl, hb8⟩; have HB8 := Lib.hid (HB7.out.trans (hb8.mono HB7.out.size)); clear hb8))
          go_ret
          exact ⟨rfl, HB8.out⟩
    · have dm : decide (60 < (m : Int)) = true := decide_eq_true (by omega)
      clear hA hn h0 hv hl hB hm hBl h60
      go_enter Try.func9, Try.ntmps9
      go_wp2_with (first
        | (go_at_call 13; (with_reducible refine HLT.out.mono ?_); rintro e w1 ⟨rfl, hb1⟩; have HB1 := Lib.hid hb1; clear hb1)
        | (go_at_call 10; (with_reducible refine (HAL.out _).mono ?_); rintro e w3 ⟨rfl, hb3⟩; have HB3 := Lib.hid (HB1.out.trans (hb3.mono HB1.out.size)); clear hb3))
      go_ret
      exact ⟨rfl, HB3.out⟩
end Go.Proofs.Ytgobbeommjjlfaa
