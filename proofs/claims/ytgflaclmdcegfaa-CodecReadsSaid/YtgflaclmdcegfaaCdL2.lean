/- Walk of the law CodecReads. -/
import Derived.Test.YtgflaclmdcegfaaRows
import Derived.Test.YtgflaclmdcegfaaCdL1
import Derived.Test.YtgflaclmdcegfaaCdRL
namespace Go.Proofs.Ytgflaclmdcegfaa
open Go.RowKit

theorem many_count' : ∀ (k : Nat) (b : List Int), (many k b).1.length ≤ k
  | 0, b => by simp [many]
  | k + 1, b => by
    have h1 := many_count' k (numR (b, 0)).2.1
    simp only [many]
    split
    · split
      · simp only [List.length_cons]; omega
      · simp
    · simp
theorem numsR_bound (s : St) : (numsR s).1.length ≤ 1048576 := by
  unfold numsR
  split
  · rename_i h
    obtain ⟨h1, h2, _⟩ := lenR_ok h
    have := many_count' (lenR s).1.toNat (lenR s).2.1
    omega
  · simp
set_option maxRecDepth 100000 in
set_option maxHeartbeats 8000000 in
theorem walkCodecReads (A : Option Addr) (n c : Nat) (zs : List Int) (W : World) (h0 : IsRow .u8 W A n c zs) :
    Calls Try.prog 4 #[.slice A n c] W fun e w' => e = .returned (.bool true) ∧ Below W.heap.size W w' := by
  have hA := byt_of_row h0
  clear h0
  have HALV := Lib.hid alive_any
  by_cases hn : (300 : Int) < (n : Int)
  · clear hA
    go_enter Try.func4, Try.ntmps4
    go_wp2_with (go_at_call 12; refine (HALV.out _).mono ?_; rintro e w1 ⟨rfl, hb1⟩)
    go_ret
    exact ⟨rfl, hb1⟩
  · have hnl : n ≤ 300 := by omega
    have hN := codNumber_any hA (by omega)
    have hNR := fun (w1 : World) (hb : Below W.heap.size W w1) => refNumber_any (hA.below hb) (by omega)
    have hL := fun (w1 : World) (hb : Below W.heap.size W w1) => codNumbers_any (hA.below hb) (by omega)
    have hLR := fun (w1 : World) (hb : Below W.heap.size W w1) => refNumbers_any (hA.below hb) (by omega)
    unfold NumP at hNR
    unfold NumsP at hLR
    obtain ⟨⟨V, R, er⟩, hS⟩ : ∃ S, numR (zs.take n, 0) = S := ⟨_, rfl⟩
    have hbl : (numsR (zs.take n, 0)).1.length ≤ 1048576 := numsR_bound _
    obtain ⟨⟨Z, Q, es⟩, hT⟩ : ∃ S, numsR (zs.take n, 0) = S := ⟨_, rfl⟩
    rw [hS] at hN hNR
    rw [hT] at hL hLR hbl
    have HN := Lib.hid hN; have HNR := Lib.hid hNR; have HL := Lib.hid hL; have HLR := Lib.hid hLR; have HBL := Lib.hid hbl
    clear hA hN hNR hL hLR hS hT hbl
    go_enter Try.func4, Try.ntmps4
    go_wp2_with (first
      | (go_at_call 13; refine HN.out.mono ?_; rintro e w1 ⟨v1, rfl, ho1, hb1⟩; obtain ⟨A1, m1, c1, rfl, hm1, y1⟩ := ho1.bytm; have HB1 := Lib.hid hb1; have Y1 := Lib.hid y1; clear ho1 hb1 y1)
      | (go_at_call 14; refine (HNR.out _ HB1.out).mono ?_; rintro e w2 ⟨v2, rfl, ho2, hb2⟩; obtain ⟨A2, m2, c2, rfl, hm2, y2⟩ := ho2.bytm; have x1 := Y1.out.below hb2; have HB2 := Lib.hid (HB1.out.trans (hb2.mono HB1.out.size)); clear ho2 hb2)
      | (go_at_call 9; refine (same_yes (by assumption) (by assumption) (by rfl)).mono ?_; rintro e w3 ⟨rfl, rfl⟩)
      | (go_at_call 15; refine (HL.out _ HB2.out).mono ?_; rintro e w4 ⟨u4, v4, rfl, hi4, ho4, hb4⟩; obtain ⟨A4, m4, c4, rfl, hm4, y4⟩ := ho4.bytm; have HB4 := Lib.hid (HB2.out.trans (hb4.mono HB2.out.size)); have Y4 := Lib.hid y4; have I4 := Lib.hid hi4; clear ho4 hb4 y4 hi4)
      | (go_at_call 16; refine (HLR.out _ HB4.out).mono ?_; rintro e w5 ⟨u5, v5, rfl, hi5, ⟨A5, m5, c5, rfl, y5⟩, hb5⟩; have x4 := Lib.hid (Y4.out.below hb5); have HB5 := Lib.hid (HB4.out.trans (hb5.mono HB4.out.size)); obtain ⟨B4, d4, hv4, q4⟩ := (I4.out.below hb5).at; obtain ⟨B5, d5, hv5, q5⟩ := hi5.at; subst hv4; subst hv5; have HQ := Lib.hid (sameInts_yes (c := d4) (d := d5) (Nat.le_trans HBL.out (by decide)) q4 q5); have Y5 := Lib.hid y5; clear hb5 y5 q4 q5 hi5)
      | (go_at_call 17; refine HQ.out.mono ?_; rintro e w6 ⟨rfl, hb6⟩; have z4 := x4.out.below hb6; have z5 := Y5.out.below hb6; have HB6 := Lib.hid (HB5.out.trans (hb6.mono HB5.out.size)); clear hb6)
      | (go_at_call 12; refine (HALV.out _).mono ?_; rintro e w7 ⟨rfl, hb7⟩))
    go_ret
    exact ⟨rfl, HB6.out.trans (hb7.mono HB6.out.size)⟩
end Go.Proofs.Ytgflaclmdcegfaa
