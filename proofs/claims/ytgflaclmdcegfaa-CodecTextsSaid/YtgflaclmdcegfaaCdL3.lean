/- Walk of the law CodecTexts. -/
import Derived.Test.YtgflaclmdcegfaaRows
import Derived.Test.YtgflaclmdcegfaaCdL1
import Derived.Test.YtgflaclmdcegfaaCdRT
namespace Go.Proofs.Ytgflaclmdcegfaa
open Go.RowKit

set_option maxRecDepth 100000 in
set_option maxHeartbeats 8000000 in
theorem walkCodecTexts (A : Option Addr) (n c : Nat) (zs : List Int) (s : ByteArray) (W : World) (h0 : IsRow .u8 W A n c zs) (h1 : s.size ≤ maxLen) :
    Calls Try.prog 5 #[.slice A n c, .string s] W fun e w' => e = .returned (.bool true) ∧ Below W.heap.size W w' := by
  have hA := byt_of_row h0
  clear h0 h1
  have HALV := Lib.hid alive_any
  by_cases hn : (300 : Int) < (n : Int)
  · clear hA
    go_enter Try.func5, Try.ntmps5
    go_wp2_with (go_at_call 12; refine (HALV.out _).mono ?_; rintro e w1 ⟨rfl, hb1⟩)
    go_ret
    exact ⟨rfl, hb1⟩
  · by_cases hs : (300 : Int) < (s.size : Int)
    · clear hA
      go_enter Try.func5, Try.ntmps5
      go_wp2_with (go_at_call 12; refine (HALV.out _).mono ?_; rintro e w1 ⟨rfl, hb1⟩)
      go_ret
      exact ⟨rfl, hb1⟩
    · have hT := codText_any hA (by omega)
      have hTR := fun (w1 : World) (hb : Below W.heap.size W w1) => refText_any (hA.below hb) (by omega)
      have hP := fun (w1 : World) (hb : Below W.heap.size W w1) => putTxt_any s (by omega) (hA.below hb) (by omega)
      have hPR := fun (w1 : World) (hb : Below W.heap.size W w1) => refPutTxt_any s (by omega) (hA.below hb) (by omega)
      obtain ⟨⟨V, R, er⟩, hS⟩ : ∃ S, txtR (zs.take n, 0) = S := ⟨_, rfl⟩
      unfold TxtP at hTR
      rw [hS] at hT hTR
      obtain ⟨L, hL⟩ : ∃ L, zs.take n ++ txtE s = L := ⟨_, rfl⟩
      rw [hL] at hP hPR
      have HT := Lib.hid hT; have HTR := Lib.hid hTR; have HP := Lib.hid hP; have HPR := Lib.hid hPR
      clear hA hT hTR hP hPR hS hL
      go_enter Try.func5, Try.ntmps5
      go_wp2_with (first
        | (go_at_call 18; refine HT.out.mono ?_; rintro e w1 ⟨v1, rfl, ho1, hb1⟩; obtain ⟨A1, m1, c1, rfl, hm1, y1⟩ := ho1.bytm; have HB1 := Lib.hid hb1; have Y1 := Lib.hid y1; clear ho1 hb1 y1)
        | (go_at_call 19; refine (HTR.out _ HB1.out).mono ?_; rintro e w2 ⟨A2, m2, c2, rfl, y2, hb2⟩; have x1 := Y1.out.below hb2; have HB2 := Lib.hid (HB1.out.trans (hb2.mono HB1.out.size)); clear hb2)
        | (go_at_call 9; refine (same_yes (by assumption) (by assumption) (by rfl)).mono ?_; rintro e w3 ⟨rfl, rfl⟩)
        | (go_at_call 20; refine (HP.out _ HB2.out).mono ?_; rintro e w4 ⟨v4, rfl, ho4, hb4⟩; obtain ⟨A4, m4, c4, rfl, hm4, y4⟩ := ho4.bytm; have HB4 := Lib.hid (HB2.out.trans (hb4.mono HB2.out.size)); have Y4 := Lib.hid y4; clear ho4 hb4 y4)
        | (go_at_call 21; refine (HPR.out _ HB4.out).mono ?_; rintro e w5 ⟨v5, rfl, ho5, hb5⟩; obtain ⟨A5, m5, c5, rfl, hm5, y5⟩ := ho5.bytm; have x4 := Y4.out.below hb5; have HB5 := Lib.hid (HB4.out.trans (hb5.mono HB4.out.size)); clear ho5 hb5)
        | (go_at_call 12; refine (HALV.out _).mono ?_; rintro e w6 ⟨rfl, hb6⟩))
      go_ret
      exact ⟨rfl, HB5.out.trans (hb6.mono HB5.out.size)⟩
end Go.Proofs.Ytgflaclmdcegfaa
