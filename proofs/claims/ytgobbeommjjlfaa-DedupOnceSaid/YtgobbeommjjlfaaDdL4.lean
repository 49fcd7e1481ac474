/- Walk of the law DedupFilters. -/
import Derived.Test.YtgobbeommjjlfaaDdF4
import Derived.Test.YtgobbeommjjlfaaDdF6
import Derived.Test.YtgobbeommjjlfaaVaS
namespace Go.Proofs.Ytgobbeommjjlfaa
open Go.RowKit

/-- Three lists that came back. -/
def Fgot (N : List Rg) (P : List Rc) (J : List Va.Rj) (n p j : Nat) (w : World) (e : Ending) (w' : World) : Prop :=
  ∃ A2 c2 A3 c3 A4 c4, e = .returned (.tuple #[.slice A2 n c2, .slice A3 p c3, .slice A4 j c4]) ∧ RgR w' A2 N ∧ Va.RecR w' A3 P ∧ Va.RjR w' A4 J ∧ (n ≤ c2 ∧ c2 ≤ maxLen ∧ (A2 = none → n = 0)) ∧ (p ≤ c3 ∧ c3 ≤ maxLen) ∧ (∀ a, A3 = some a → a.block < w'.heap.size) ∧ Below w.heap.size w w'
theorem fgot_of {w w' : World} {t v u : Value} {N : List Rg} {P : List Rc} {J : List Va.Rj} {n p j : Nat} {e : Ending} (he : e = .returned (.tuple #[t, v, u])) (hn : N.length = n) (hp : P.length = p) (hj : J.length = j)
    (ht : w'.ownsRow w.heap.size 44 3 t N.length (rcl N)) (hv : w'.ownsRow w.heap.size 40 12 v P.length (Va.recl P)) (hu : w'.ownsRow w.heap.size 57 4 u J.length (Va.jcl J)) (hb : Below w.heap.size w w') : Fgot N P J n p j w e w' := by
  have hlt := World.ownsRow.lt hv
  obtain ⟨A2, c2, rfl, h1, h2, h3, h4⟩ := rg_own0 ht rfl
  obtain ⟨A3, c3, rfl, g1, g2, g3, -⟩ := Va.rec_own hv rfl
  obtain ⟨A4, c4, rfl, -, -, k3, -⟩ := Va.rj_own hu rfl
  subst hn hp hj
  refine ⟨A2, c2, A3, c3, A4, c4, he, h3, g3, k3, ⟨h1, h2, h4⟩, ⟨g1, g2⟩, fun a ha => ?_, hb⟩
  subst ha
  rcases hv.2 with ⟨h, _⟩ | ⟨g, cap, cur, hq, _, hg, _⟩
  · cases h
  · injection hq with h _ _
    injection h with h
    subst h
    exact (Array.getElem?_eq_some_iff.1 hg).1
theorem filter_got (A B : Option Addr) (n c m d : Nat) (l : List Rg) (D : List Rc) (w : World) (hl : Can l) (hA : RgR w A l) (hn : l.length = n) (h0 : A = none → n = 0) (hB : Va.RecR w B D) (hBl : ∀ a, B = some a → a.block < w.heap.size) (hm : D.length = m) (h6 : n ≤ 500000) (h7 : m ≤ 100000) (hc : n ≤ c) (hcm : c ≤ maxLen) (hd : m ≤ d) (hdm : d ≤ maxLen)
    {N : List Rg} {P : List Rc} {J : List Va.Rj} {q p j : Nat} (hN : nowL l D m = N) (hP : Va.pasN D (fltE l D) m = P) (hJ : Va.rejD D (fltE l D) m = J) (hq : N.length = q) (hp : P.length = p) (hj : J.length = j) :
    Calls Try.prog 21 #[.slice A n c, .slice B m d] w (Fgot N P J q p j w) := by
  refine (filter_any A B n c m d l D w hl hA hn h0 hB hBl hm h6 h7 hc hcm hd hdm).mono fun e w' h => ?_
  obtain ⟨t, v, u, he, h1, h2, h3, h4⟩ := h
  rw [hN] at h1
  rw [hP] at h2
  rw [hJ] at h3
  exact fgot_of he hq hp hj h1 h2 h3 h4
theorem refFilter_got (A B : Option Addr) (n c m d : Nat) (l : List Rg) (D : List Rc) (w : World) (hl : Can l) (hA : RgR w A l) (hn : l.length = n) (h0 : A = none → n = 0) (hB : Va.RecR w B D) (hm : D.length = m) (h6 : n ≤ 500000) (h7 : m ≤ 100000) (hc : n ≤ c) (hcm : c ≤ maxLen) (hd : m ≤ d) (hdm : d ≤ maxLen)
    {N : List Rg} {P : List Rc} {J : List Va.Rj} {q p j : Nat} (hN : nowL l D m = N) (hP : Va.pasN D (fltE l D) m = P) (hJ : Va.rejD D (fltE l D) m = J) (hq : N.length = q) (hp : P.length = p) (hj : J.length = j) :
    Calls Try.prog 22 #[.slice A n c, .slice B m d] w (Fgot N P J q p j w) := by
  refine (refFilter_any A B n c m d l D w hl hA hn h0 hB hm h6 h7 hc hcm hd hdm).mono fun e w' h => ?_
  obtain ⟨t, v, u, he, ht⟩ := h
  rw [hN, hP, hJ] at ht
  exact fgot_of he hq hp hj ht.ot ht.ov ht.ou ht.ch
set_option maxRecDepth 100000 in
set_option maxHeartbeats 8000000 in
theorem walkDedupFilters (A : Option Addr) (n c : Nat) (l : List Rg) (B : Option Addr) (m d : Nat) (D : List Rc) (w : World) (hA : RgR w A l) (hn : l.length = n) (hc : n ≤ c) (hcm : c ≤ maxLen) (h0 : A = none → n = 0) (hB : Va.RecR w B D) (hm : D.length = m) (hd : m ≤ d) (hdm : d ≤ maxLen) (hBl : ∀ a, B = some a → a.block < w.heap.size) :
    Calls Try.prog 6 #[.slice A n c, .slice B m d] w fun e w' => e = .returned (.bool true) ∧ Below w.heap.size w w' := by
  have HAL := Lib.hid alive_any
  obtain ⟨v, hv⟩ : ∃ v, (decide (n ≤ 100) && canB l) = v := ⟨_, rfl⟩
  have HLT := Lib.hid (light_any A n c l w hA hn hc hcm v hv)
  cases v
  · clear hA hn h0 hv hB hm hBl
    go_enter Try.func6, Try.ntmps6
    go_wp2_with (first
      | (go_at_call 13; (with_reducible refine HLT.out.mono ?_); rintro e w1 ⟨rfl, hb1⟩; have HB1 := Lib.hid hb1; clear hb1)
      | (go_at_call 10; (with_reducible refine (HAL.out _).mono ?_); rintro e w3 ⟨rfl, hb3⟩; have HB3 := Lib.hid (HB1.out.trans (hb3.mono HB1.out.size)); clear hb3))
    go_ret
    exact ⟨rfl, HB3.out⟩
  · rw [Bool.and_eq_true, decide_eq_true_eq] at hv
    have hl := canB_iff.1 hv.2
    by_cases h60 : m ≤ 60
    · have dm : decide (60 < (m : Int)) = false := decide_eq_false (by omega)
      obtain ⟨N, hN⟩ : ∃ N, nowL l D m = N := ⟨_, rfl⟩
      obtain ⟨P, hP⟩ : ∃ P, Va.pasN D (fltE l D) m = P := ⟨_, rfl⟩
      obtain ⟨J, hJ⟩ : ∃ J, Va.rejD D (fltE l D) m = J := ⟨_, rfl⟩
      have hNl : N.length ≤ 1000000 := by have := (nowL_can (D := D) hl m).2; rw [hN] at this; omega
      have hPl : P.length ≤ 1000000 := by have := Va.pas_len (D := D) (E := fltE l D) (k := m); rw [hP] at this; omega
      have hJl : J.length ≤ 1000000 := by have := rejD_l (D := D) (E := fltE l D) (k := m); rw [hJ] at this; omega
      obtain ⟨q, hq⟩ : ∃ q, N.length = q := ⟨_, rfl⟩
      obtain ⟨p, hp⟩ : ∃ p, P.length = p := ⟨_, rfl⟩
      obtain ⟨j, hj⟩ : ∃ j, J.length = j := ⟨_, rfl⟩
      have HF := Lib.hid (fun W (h : Below w.heap.size w W) => filter_got A B n c m d l D W hl (hA.below h) hn h0 (hB.below h) (fun a ha => Nat.lt_of_lt_of_le (hBl a ha) h.size) hm (by omega) (by omega) hc hcm hd hdm hN hP hJ hq hp hj)
      have HR := Lib.hid (fun W (h : Below w.heap.size w W) => refFilter_got A B n c m d l D W hl (hA.below h) hn h0 (hB.below h) hm (by omega) (by omega) hc hcm hd hdm hN hP hJ hq hp hj)
      have HS1 := Lib.hid (fun A B c d W h1 h2 => same_eq A B q c d N W h1 h2 hq (by omega))
      have HS2 := Lib.hid (fun A B c d W h1 h2 => Va.same_rec A B p c d P W h1 h2 hp (by omega))
      have HS3 := Lib.hid (fun A B c d W h1 h2 => Va.same_rej A B j c d J W h1 h2 hj (by omega))
      clear hA hn h0 hv hl hB hm hBl hN hP hJ hNl hPl hJl hq hp hj h60
      go_enter Try.func6, Try.ntmps6
      go_wp2_with (first
        | (go_at_call 13; (with_reducible refine HLT.out.mono ?_); rintro e w1 ⟨rfl, hb1⟩; have HB1 := Lib.hid hb1; clear hb1)
        | (go_at_call 21; (with_reducible refine (HF.out _ HB1.out).mono ?_); rintro e w2 ⟨A2, c2, A3, c3, A4, c4, rfl, g1, g2, g3, -, -, -, hb2⟩; have HB2 := Lib.hid (HB1.out.trans (hb2.mono HB1.out.size)); have HX1 := Lib.hid g1; have HX2 := Lib.hid g2; have HX3 := Lib.hid g3; clear g1 g2 g3 hb2)
        | (go_at_call 22; (with_reducible refine (HR.out _ HB2.out).mono ?_); rintro e w3 ⟨A5, c5, A6, c6, A7, c7, rfl, g1, g2, g3, -, -, -, hb3⟩; have HB3 := Lib.hid (HB2.out.trans (hb3.mono HB2.out.size)); have HY1 := Lib.hid (HX1.out.below hb3); have HY2 := Lib.hid (HX2.out.below hb3); have HY3 := Lib.hid (HX3.out.below hb3); have HZ1 := Lib.hid g1; have HZ2 := Lib.hid g2; have HZ3 := Lib.hid g3; clear g1 g2 g3 hb3)
        | (go_at_call 20; (with_reducible refine (HS1.out _ _ _ _ _ HY1.out HZ1.out).mono ?_); rintro e w4 ⟨rfl, hb4⟩; have HB4 := Lib.hid (HB3.out.trans (hb4.mono HB3.out.size)); have HU2 := Lib.hid (HY2.out.below hb4); have HU3 := Lib.hid (HY3.out.below hb4); have HV2 := Lib.hid (HZ2.out.below hb4); have HV3 := Lib.hid (HZ3.out.below hb4); clear hb4)
        | (go_at_call 23; (with_reducible refine (HS2.out _ _ _ _ _ HU2.out HV2.out).mono ?_); rintro e w5 ⟨rfl, hb5⟩; have HB5 := Lib.hid (HB4.out.trans (hb5.mono HB4.out.size)); have HT3 := Lib.hid (HU3.out.below hb5); have HW3 := Lib.hid (HV3.out.below hb5); clear hb5)
        | (go_at_call 24; (with_reducible refine (HS3.out _ _ _ _ _ HT3.out HW3.out).mono ?_); rintro e w6 ⟨rfl, hb6⟩; have HB6 := Lib.hid (HB5.out.trans (hb6.mono HB5.out.size)); clear hb6)
        | (go_at_call 10; (with_reducible refine (HAL.out _).mono ?_); rintro e w7 ⟨rfl, hb7⟩; have HB7 := Lib.hid (HB6.out.trans (hb7.mono HB6.out.size)); clear hb7))
      go_ret
      exact ⟨rfl, HB7.out⟩
    · have dm : decide (60 < (m : Int)) = true := decide_eq_true (by omega)
      clear hA hn h0 hv hl hB hm hBl h60
      go_enter Try.func6, Try.ntmps6
      go_wp2_with (first
        | (go_at_call 13; (with_reducible refine HLT.out.mono ?_); rintro e w1 ⟨rfl, hb1⟩; have HB1 := Lib.hid hb1; clear hb1)
        | (go_at_call 10; (with_reducible refine (HAL.out _).mono ?_); rintro e w3 ⟨rfl, hb3⟩; have HB3 := Lib.hid (HB1.out.trans (hb3.mono HB1.out.size)); clear hb3))
      go_ret
      exact ⟨rfl, HB3.out⟩
end Go.Proofs.Ytgobbeommjjlfaa
