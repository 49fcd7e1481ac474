/- Walk of the law on lists of records, from awake's contract. -/
import Derived.Test.YtpmcmafbfboocaaDoorVaF
import Derived.Test.YtpmcmafbfboocaaDoorVaL4
import Derived.Test.YtpmcmafbfboocaaDoorVaR
import Derived.Test.YtpmcmafbfboocaaDoorVaS
namespace Go.Proofs.YtpmcmafbfboocaaDoor.Va
open Go.RowKit

theorem out_of {w : World} {D : List Rc} {E : Nat → Int} {e : Ending} {w' : World} {P : List Rc} {J : List Rj} {p j : Nat} (hP : pasN D E D.length = P) (hJ : rejD D E D.length = J) (hp : P.length = p) (hj : J.length = j) (h : AllOut w D E e w') :
    ∃ A2 c2 A3 c3, e = .returned (.tuple #[.slice A2 p c2, .slice A3 j c3]) ∧ RecR w' A2 P ∧ RjR w' A3 J ∧ Below w.heap.size w w' := by
  obtain ⟨v, u, rfl, ho, hu, hb⟩ := h
  rw [hP, hp] at ho
  rw [hJ, hj] at hu
  obtain ⟨A2, c2, rfl, -, -, h2, -⟩ := rec_own ho hp
  obtain ⟨A3, c3, rfl, -, -, h3, -⟩ := rj_own hu hj
  exact ⟨A2, c2, A3, c3, rfl, h2, h3, hb⟩
set_option maxRecDepth 100000 in
set_option maxHeartbeats 8000000 in
theorem allWalk (HALV : Hid Alv) (A : Option Addr) (n c : Nat) (D : List Rc) (lo hi : Int) (w : World) (hA : RecR w A D) (hAl : ∀ a, A = some a → a.block < w.heap.size) (hn : D.length = n) (hc : n ≤ c) (hm : c ≤ maxLen) (hK : KN w) :
    Calls Tryd.prog 4 #[.slice A n c, .agg #[.int .i64 lo, .int .i64 hi]] w fun e w' => e = .returned (.bool true) ∧ Below w.heap.size w w' := by
  have hb0 : Below w.heap.size w (w.alloc (.cells #[.int .i64 lo, .int .i64 hi] 25)) := (Below.refl _ w).alloc (Nat.le_refl _) _
  have HQ : Hid (Blk (w.alloc (.cells #[.int .i64 lo, .int .i64 hi] 25)) w.heap.size 25 #[.int .i64 lo, .int .i64 hi]) := Lib.hid (Blk.new w 25 #[.int .i64 lo, .int .i64 hi])
  have HF := Lib.hid (few_any A n c D (w.alloc (.cells #[.int .i64 lo, .int .i64 hi] 25)) (hA.below hb0) hn (Nat.le_trans hc hm))
  have HB0 := Lib.hid hb0
  have HK := Lib.hid hK
  by_cases hf : fewL D = true
  · obtain ⟨h60, hD⟩ := few_len hf
    rw [hf] at HF
    obtain ⟨P, hP⟩ : ∃ P, pasN D (fun k => allE (D.getD k rc0) lo hi) D.length = P := ⟨_, rfl⟩
    obtain ⟨J, hJ⟩ : ∃ J, rejD D (fun k => allE (D.getD k rc0) lo hi) D.length = J := ⟨_, rfl⟩
    have hpl : P.length ≤ 1000000 := by
      have := pas_len (D := D) (E := fun k => allE (D.getD k rc0) lo hi) (k := D.length)
      rw [hP] at this; omega
    have hjl : J.length ≤ 1000000 := by
      have := rejD_len (D := D) (E := fun k => allE (D.getD k rc0) lo hi) (k := D.length)
      rw [hJ] at this; omega
    obtain ⟨p, hp⟩ : ∃ p, P.length = p := ⟨_, rfl⟩
    obtain ⟨j, hj⟩ : ∃ j, J.length = j := ⟨_, rfl⟩
    have HAL : Hid (∀ W, Below w.heap.size w W → Calls Tryd.prog 15 #[.slice A n c, .agg #[.int .i64 lo, .int .i64 hi]] W fun e w' => ∃ A2 c2 A3 c3, e = .returned (.tuple #[.slice A2 p c2, .slice A3 j c3]) ∧ RecR w' A2 P ∧ RjR w' A3 J ∧ Below W.heap.size W w') := Lib.hid (fun W hb =>
      (all_any A n c D lo hi W hD (hA.below hb) (fun a ha => Nat.lt_of_lt_of_le (hAl a ha) hb.size) hn (by omega) hc hm).mono fun e w' h => out_of hP hJ hp hj h)
    have HRL : Hid (∀ W, Below w.heap.size w W → Calls Tryd.prog 16 #[.slice A n c, .agg #[.int .i64 lo, .int .i64 hi]] W fun e w' => ∃ A2 c2 A3 c3, e = .returned (.tuple #[.slice A2 p c2, .slice A3 j c3]) ∧ RecR w' A2 P ∧ RjR w' A3 J ∧ Below W.heap.size W w') := Lib.hid (fun W hb =>
      (refAll_any A n c D lo hi W hD (hA.below hb) (fun a ha => Nat.lt_of_lt_of_le (hAl a ha) hb.size) hn (by omega) hc hm).mono fun e w' h => out_of hP hJ hp hj h)
    have HSR := Lib.hid (fun A B c d W h1 h2 => same_rec A B p c d P W h1 h2 hp (by omega))
    have HSJ := Lib.hid (fun A B c d W h1 h2 => same_rej A B j c d J W h1 h2 hj (by omega))
    obtain ⟨g, hg⟩ : ∃ g, w.heap.size = g := ⟨_, rfl⟩
    obtain ⟨L, hL⟩ : ∃ L, w.alloc (.cells #[.int .i64 lo, .int .i64 hi] 25) = L := ⟨_, rfl⟩
    rw [hg] at HQ
    rw [hL] at HQ HF HB0
    obtain ⟨q0, q1⟩ := HQ.out.two
    clear hA hAl hn hc hm hK hb0 hf h60 hD hP hJ hpl hjl hp hj
    go_enter Tryd.func4, Tryd.ntmps4
    go_wp2_with (first
      | (go_at_call 14; (with_reducible refine HF.out.mono ?_); rintro e w1 ⟨rfl, hb1⟩; have HB1 := Lib.hid (HB0.out.trans (hb1.mono HB0.out.size)); have HQ1 := Lib.hid (HQ.out.below hb1 HQ.out.lt); clear hb1 q0 q1; obtain ⟨q0, q1⟩ := HQ1.out.two)
      | (go_at_call 15; (with_reducible refine (HAL.out _ HB1.out).mono ?_); rintro e w2 ⟨A2, c2, A3, c3, rfl, hr2, hj2, hb2⟩; have HB2 := Lib.hid (HB1.out.trans (hb2.mono HB1.out.size)); have HQ2 := Lib.hid (HQ1.out.below hb2 HQ1.out.lt); have HR2 := Lib.hid hr2; have HJ2 := Lib.hid hj2; clear hr2 hj2 hb2 q0 q1; obtain ⟨q0, q1⟩ := HQ2.out.two)
      | (go_at_call 16; (with_reducible refine (HRL.out _ HB2.out).mono ?_); rintro e w3 ⟨A4, c4, A5, c5, rfl, hr3, hj3, hb3⟩; have HB3 := Lib.hid (HB2.out.trans (hb3.mono HB2.out.size)); have HR3 := Lib.hid (HR2.out.below hb3); have HJ3 := Lib.hid (HJ2.out.below hb3); have HR4 := Lib.hid hr3; have HJ4 := Lib.hid hj3; clear hr3 hj3 hb3 q0 q1)
      | (go_at_call 17; (with_reducible refine (HSR.out _ _ _ _ _ HR3.out HR4.out).mono ?_); rintro e w4 ⟨rfl, hb4⟩; have HB4 := Lib.hid (HB3.out.trans (hb4.mono HB3.out.size)); have HJ5 := Lib.hid (HJ3.out.below hb4); have HJ6 := Lib.hid (HJ4.out.below hb4); clear hb4)
      | (go_at_call 18; (with_reducible refine (HSJ.out _ _ _ _ _ HJ5.out HJ6.out).mono ?_); rintro e w5 ⟨rfl, hb5⟩; have HB5 := Lib.hid (HB4.out.trans (hb5.mono HB4.out.size)); clear hb5)
      | (go_at_call 9; (with_reducible refine (HALV.out _ (HK.out.below HB5.out)).mono ?_); rintro e w9 ⟨rfl, hb9⟩))
    go_ret
    exact ⟨rfl, HB5.out.trans (hb9.mono HB5.out.size)⟩
  · rw [Bool.not_eq_true] at hf
    rw [hf] at HF
    obtain ⟨g, hg⟩ : ∃ g, w.heap.size = g := ⟨_, rfl⟩
    obtain ⟨L, hL⟩ : ∃ L, w.alloc (.cells #[.int .i64 lo, .int .i64 hi] 25) = L := ⟨_, rfl⟩
    rw [hL] at HF HB0
    clear hA hAl hn hc hm hK hb0 hf HQ
    go_enter Tryd.func4, Tryd.ntmps4
    go_wp2_with (first
      | (go_at_call 14; (with_reducible refine HF.out.mono ?_); rintro e w1 ⟨rfl, hb1⟩; have HB1 := Lib.hid (HB0.out.trans (hb1.mono HB0.out.size)); clear hb1)
      | (go_at_call 9; (with_reducible refine (HALV.out _ (HK.out.below HB1.out)).mono ?_); rintro e w9 ⟨rfl, hb9⟩))
    go_ret
    exact ⟨rfl, HB1.out.trans (hb9.mono HB1.out.size)⟩
end Go.Proofs.YtpmcmafbfboocaaDoor.Va
