/- Walk of the law FrameWraps. -/
import Derived.Test.YtfamghmoanfdgaaRows
import Derived.Test.YtfamghmoanfdgaaFrL2
namespace Go.Proofs.Ytfamghmoanfdgaa
open Go.RowKit

set_option maxRecDepth 100000 in
set_option maxHeartbeats 8000000 in
theorem walkFrameWraps (A : Option Addr) (n c : Nat) (vs : List Value) (ps : List (List Int)) (W : World) (h0 : Pls W A n c vs ps) :
    Calls Try.prog 4 #[.slice A n c] W fun e w' => e = .returned (.bool true) ∧ Below W.heap.size W w' := by
  have HALV := Lib.hid alive_any
  have hFew := few_any h0
  by_cases hfew : fewB n ps = true
  · rw [hfew] at hFew
    obtain ⟨hn, hs⟩ := few_bound h0.len hfew
    have hlen := few_len hs
    have hpl := h0.len
    have hJ := fun (w1 : World) (hb : Below W.heap.size W w1) => join_ok (h0.below hb) (by omega) (by omega) (few_fits hs)
    have hK := fun (w1 : World) (hb : Below W.heap.size W w1) => refJoin_any (h0.below hb) (by omega) (fun p hp => Nat.le_trans (hs p hp) (by decide)) (by omega)
    have HFew := Lib.hid hFew; have HJ := Lib.hid hJ; have HK := Lib.hid hK; have HA := Lib.hid h0; have HS := Lib.hid hs
    have hni : (n : Int) ≤ 12 := by omega
    clear hFew hJ hK h0 hs hlen hpl hn hfew
    go_enter Try.func4, Try.ntmps4
    go_wp2_with (go_at_call 14; refine HFew.out.mono ?_; rintro e w1 ⟨rfl, rfl⟩)
    go_loopw [3] (fun i wr => ∃ (k : Nat), i = .int .i64 (k : Int) ∧ k ≤ n ∧ Below W.heap.size W wr) (fun i _ => n - (intOf i).toNat)
    case atStart => exact ⟨0, rfl, by omega, Below.refl _ _⟩
    case round =>
      obtain ⟨k, rfl, hk, hb⟩ := hrel
      by_cases hlt : k < n
      · obtain ⟨b, off, B, m, d, p, rfl, hcell, hbl, hp, hB⟩ := HA.out.at hlt
        have hlt' : (k : Int) < (n : Int) := by omega
        have hc2 := (hb.cell (p := ⟨b, off + k, none⟩) hbl).trans hcell
        have hpf : fits p = true := by have := HS.out p (List.mem_of_getElem? hp); simp [fits]; omega
        have HW := Lib.hid (wrap_ok (hB.below hb) hpf)
        have HV := Lib.hid (fun (w1 : World) (h1 : Below W.heap.size W w1) => refWrap_ok (hB.below h1) hpf)
        have HC := Lib.hid (fun (w1 : World) (h1 : Below W.heap.size W w1) => (h1.cell (p := ⟨b, off + k, none⟩) hbl).trans hcell)
        have HB := Lib.hid hb
        clear hcell hB hb hpf
        go_wp2_with (first
          | (go_at_call 15; refine HW.out.mono ?_; rintro e w1 ⟨v1, rfl, ho1, hb1⟩; have HB1 := Lib.hid (HB.out.trans (hb1.mono HB.out.size)); have HO1 := Lib.hid ho1; have hc3 := HC.out _ HB1.out; clear hb1 ho1)
          | (go_at_call 16; refine (HV.out _ HB1.out).mono ?_; rintro e w2 ⟨v2, rfl, ho2, hb2⟩; obtain ⟨A1, m1, c1, rfl, hm1, y1⟩ := (HO1.out.below hb2).bytm; obtain ⟨A2, m2, c2, rfl, hm2, y2⟩ := ho2.bytm; have HB2 := Lib.hid (HB1.out.trans (hb2.mono HB1.out.size)); clear hb2 ho2)
          | (go_at_call 17; refine (same_yes (by assumption) (by assumption) (by rfl)).mono ?_; rintro e w6 ⟨rfl, rfl⟩))
        go_roundw
        case rel => exact ⟨k + 1, by first | rfl | (simp; omega), by omega, HB2.out⟩
        case measure => simp [intOf]; omega
      · obtain rfl : k = n := by omega
        have HB := Lib.hid hb
        have HJ1 := Lib.hid (HJ.out _ hb)
        clear hb
        go_wp2_with (first
          | (go_at_call 18; refine HJ1.out.mono ?_; rintro e w1 ⟨v1, rfl, ho1, hb1⟩; have HB1 := Lib.hid (HB.out.trans (hb1.mono HB.out.size)); have HO1 := Lib.hid ho1; clear hb1 ho1)
          | (go_at_call 19; refine (HK.out _ HB1.out).mono ?_; rintro e w2 ⟨v2, rfl, ho2, hb2⟩; obtain ⟨A1, m1, c1, rfl, hm1, y1⟩ := (HO1.out.below hb2).bytm; obtain ⟨A2, m2, c2, rfl, hm2, y2⟩ := ho2.bytm; have HB2 := Lib.hid (HB1.out.trans (hb2.mono HB1.out.size)); clear hb2 ho2)
          | (go_at_call 17; refine (same_yes (by assumption) (by assumption) (by rfl)).mono ?_; rintro e w6 ⟨rfl, rfl⟩)
          | (go_at_call 13; refine (HALV.out _).mono ?_; rintro e w7 ⟨rfl, hb7⟩))
        go_ret
        exact ⟨rfl, HB2.out.trans (hb7.mono HB2.out.size)⟩
  · rw [Bool.not_eq_true] at hfew
    rw [hfew] at hFew
    have HFew := Lib.hid hFew
    clear hFew h0 hfew
    go_enter Try.func4, Try.ntmps4
    go_wp2_with (first
      | (go_at_call 14; refine HFew.out.mono ?_; rintro e w1 ⟨rfl, rfl⟩)
      | (go_at_call 13; refine (HALV.out _).mono ?_; rintro e w7 ⟨rfl, hb7⟩))
    go_ret
    exact ⟨rfl, hb7⟩
end Go.Proofs.Ytfamghmoanfdgaa
