/- Walk: the law on bytes of many records. -/
import Derived.Test.YtinnmnhaeejfdaaTgAl
import Derived.Test.YtinnmnhaeejfdaaTgS
import Derived.Test.YtinnmnhaeejfdaaTgAR
import Derived.Test.YtinnmnhaeejfdaaTgAwk
import Derived.Test.YtinnmnhaeejfdaaTgLN
namespace Go.Proofs.Ytinnmnhaeejfdaa
open Go.RowKit

set_option maxRecDepth 100000 in
set_option maxHeartbeats 8000000 in
theorem walkTaggedAll (A : Option Addr) (m c : Nat) (zs : List Int) (w : World) (hr : IsRow .u8 w A m c zs) :
    Calls Try.prog 8 #[.slice A m c] w fun e w' => e = .returned (.bool true) ∧ Below w.heap.size w w' := by
  have HAL := Lib.hid alive_any
  have hA := byt_of_row hr
  by_cases h3 : m ≤ 3000
  · have d1 : decide (3000 < (m : Int)) = false := decide_eq_false (by omega)
    obtain ⟨l, hl⟩ : ∃ l, zs.take m = l := ⟨_, rfl⟩
    rw [hl] at hA
    have hlen := hA.len
    have hN : Va.allN l ≤ 1500 := by
      have := (Va.cut_all (l := l) (by omega)).1
      unfold Va.allN; split <;> omega
    have HP1 := Lib.hid (Va.all_any hA (by omega))
    have HP2 := Lib.hid (fun W (h : Below w.heap.size w W) => Va.refAll_any (hA.below h) (by omega))
    unfold Va.AllOut at HP1 HP2
    obtain ⟨x, hx⟩ : ∃ x, Va.allX l = x := ⟨_, rfl⟩
    obtain ⟨N, hNN⟩ : ∃ N, Va.allN l = N := ⟨_, rfl⟩
    obtain ⟨D, hD⟩ : ∃ D, Va.allD l = D := ⟨_, rfl⟩
    obtain ⟨E, hE⟩ : ∃ E, Va.allE l = E := ⟨_, rfl⟩
    rw [hx, hNN, hD, hE] at HP1 HP2
    rw [hNN] at hN
    have hl1 : (Va.pasN D E N).length ≤ N := Va.pas_len
    have hl2 : (Va.rejN E N).length ≤ N := Va.rej_len
    obtain ⟨a, ha⟩ : ∃ a, (Va.pasN D E N).length = a := ⟨_, rfl⟩
    obtain ⟨b, hb⟩ : ∃ b, (Va.rejN E N).length = b := ⟨_, rfl⟩
    rw [ha] at hl1
    rw [hb] at hl2
    have HA := Lib.hid ha; have HBB := Lib.hid hb
    have HAM : Hid (a ≤ 1000000) := Lib.hid (by omega)
    have HBM : Hid (b ≤ 1000000) := Lib.hid (by omega)
    clear hr hA hlen hx hNN hD hE hl hl1 hl2 hN ha hb
    go_enter Try.func8, Try.ntmps8
    go_wp2_with (first
      | (go_at_call 21; (with_reducible refine HP1.out.mono ?_); rintro e w1 ⟨v1, u1, rfl, ht⟩; have HT1 := Lib.hid ht; have HB1 := Lib.hid (Va.two_below ht); clear ht)
      | (go_at_call 22; (with_reducible refine (HP2.out _ HB1.out).mono ?_); rintro e w2 ⟨v2, u2, rfl, ht⟩; have h1 := Va.own_keep HT1.out.ov (Va.two_below ht); have h2 := Va.own_keep HT1.out.ou (Va.two_below ht); have h3 := ht.ov; have h4 := ht.ou; rw [HA.out] at h1 h3; rw [HBB.out] at h2 h4; obtain ⟨A1, c1, rfl, -, -, r1, -⟩ := Va.rec_own h1 HA.out; obtain ⟨A2, c2, rfl, -, -, r2, -⟩ := Va.rj_own h2 HBB.out; obtain ⟨A3, c3, rfl, -, -, r3, -⟩ := Va.rec_own h3 HA.out; obtain ⟨A4, c4, rfl, -, -, r4, -⟩ := Va.rj_own h4 HBB.out; have HR1 := Lib.hid r1; have HR2 := Lib.hid r2; have HR3 := Lib.hid r3; have HR4 := Lib.hid r4; have HB2 := Lib.hid (HB1.out.trans ((Va.two_below ht).mono HB1.out.size)); clear ht h1 h2 h3 h4 r1 r2 r3 r4)
      | (go_at_call 23; (with_reducible refine (Va.same09 A1 A3 a c1 c3 _ w2 HR1.out HR3.out HA.out HAM.out).mono ?_); rintro e w3 ⟨rfl, hb⟩; have HR2 := Lib.hid (HR2.out.below hb); have HR4 := Lib.hid (HR4.out.below hb); have HB3 := Lib.hid (HB2.out.trans (hb.mono HB2.out.size)); clear hb)
      | (go_at_call 24; (with_reducible refine (Va.sameRej09 A2 A4 b c2 c4 _ w3 HR2.out HR4.out HBB.out HBM.out).mono ?_); rintro e w4 ⟨rfl, hb⟩; have HB4 := Lib.hid (HB3.out.trans (hb.mono HB3.out.size)); clear hb)
      | (go_at_call 10; (with_reducible refine (HAL.out _).mono ?_); rintro e w5 ⟨rfl, hb⟩; have HB5 := Lib.hid (HB4.out.trans (hb.mono HB4.out.size)); clear hb))
    go_ret
    exact ⟨rfl, HB5.out⟩
  · have d1 : decide (3000 < (m : Int)) = true := decide_eq_true (by omega)
    clear hr hA
    go_enter Try.func8, Try.ntmps8
    go_wp2_with (go_at_call 10; (with_reducible refine (HAL.out _).mono ?_); rintro e w5 ⟨rfl, hb5⟩)
    go_ret
    exact ⟨rfl, hb5⟩
end Go.Proofs.Ytinnmnhaeejfdaa
