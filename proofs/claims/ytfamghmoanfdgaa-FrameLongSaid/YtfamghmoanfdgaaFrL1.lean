/- Walks: the chapter's examples; the law FrameSums. -/
import Derived.Test.YtfamghmoanfdgaaRows
import Derived.Test.YtfamghmoanfdgaaFrB
namespace Go.Proofs.Ytfamghmoanfdgaa
open Go.RowKit

theorem Found.below {w w' : World} {base : Nat} {v : Value} {ps : List (List Int)} (h : Found w base v ps) (hb : Below w.heap.size w w') : Found w' base v ps := by
  obtain ⟨vs, h1, h2, h3⟩ := h
  refine ⟨vs, row_keep h1 hb, h2, fun i p hp => ?_⟩
  obtain ⟨A, m, d, g1, g2, g3⟩ := h3 i p hp
  exact ⟨A, m, d, g1, g2.below hb, g3⟩
theorem byt_of_row {w : World} {a : Option Addr} {len cap : Nat} {zs : List Int} (h : IsRow .u8 w a len cap zs) : Byt w a len cap (zs.take len) := by
  have hh := has_row h
  rcases h with ⟨rfl, rfl, rfl, rfl⟩ | ⟨x, rfl, hl, hm, hz, hc, hw⟩
  · exact byt_nil w
  · exact ⟨hh, hl, hm, fun z hz' => u8_bounds (hw z (List.mem_of_mem_take hz'))⟩
set_option maxRecDepth 100000 in
set_option maxHeartbeats 4000000 in
theorem alive_any (w : World) : Calls Try.prog 13 #[] w fun e w' => e = .returned (.bool true) ∧ Below w.heap.size w w' := by
  obtain ⟨L1, hL1, bL1, yL1⟩ := lit_world w [97] (by decide) (by decide); change w.alloc (.cells #[.int .u8 97] 5) = L1 at hL1
  have hW := wrap_ok yL1 (by decide)
  rw [frm_97] at hW
  have HW := Lib.hid hW; have BL1 := Lib.hid bL1
  have hS := fun w1 => sum_any (byt_nil w1) (by decide)
  rw [fnv_nil] at hS
  have HS := Lib.hid hS
  clear hW bL1 yL1 hS
  go_enter Try.func13, Try.ntmps13
  go_wp2_with (first
    | (go_at_call 15; refine HW.out.mono ?_; rintro e w1 ⟨v1, rfl, ho1, hb1⟩; have HB1 := Lib.hid (BL1.out.trans (hb1.mono BL1.out.size)); obtain ⟨A1, m1, c1, rfl, hm1, z1⟩ := ho1.bytm; obtain ⟨L2, hL2, bL2, yL2⟩ := lit_world w1 [2, 228, 12, 41, 44, 97, 2, 228] (by decide) (by decide); change w1.alloc (.cells #[.int .u8 2, .int .u8 228, .int .u8 12, .int .u8 41, .int .u8 44, .int .u8 97, .int .u8 2, .int .u8 228] 5) = L2 at hL2; have HA2 := all_any yL2 (by decide); unfold AllP at HA2; rw [all_97] at HA2; have HA2 := Lib.hid HA2; have Z1 := Lib.hid z1; have BL2 := Lib.hid bL2; clear ho1 hb1 z1 bL2 yL2)
    | (go_at_call 22; refine HA2.out.mono ?_; rintro e w2 ⟨v2, k2, rfl, hk2, hf2, hb2⟩; obtain rfl : k2 = 6 := hk2; have K2 := Lib.hid (BL2.out.trans (hb2.mono BL2.out.size)); obtain ⟨L3, hL3, bL3, yL3⟩ := lit_world w2 [2, 228, 12, 41, 44, 97] (by decide) (by decide); change w2.alloc (.cells #[.int .u8 2, .int .u8 228, .int .u8 12, .int .u8 41, .int .u8 44, .int .u8 97] 5) = L3 at hL3; obtain ⟨L4, hL4, bL4, yL4⟩ := lit_world L3 [97] (by decide) (by decide); change L3.alloc (.cells #[.int .u8 97] 5) = L4 at hL4; have x3 := Z1.out.below (K2.out.trans (bL3.mono K2.out.size)); have y3 : Byt L3 (some ⟨w2.heap.size, 0, none⟩) 6 6 [2, 228, 12, 41, 44, 97] := yL3; have y4 : Byt L4 (some ⟨L3.heap.size, 0, none⟩) 1 1 [97] := yL4; obtain ⟨L5, hL5⟩ : ∃ L5, L4.alloc (.cells #[.slice (some ⟨L3.heap.size, 0, none⟩) 1 1] 22) = L5 := ⟨_, rfl⟩; have p5 := pls_one L4 y4; rw [hL5] at p5; have b25 : Below w2.heap.size w2 L5 := (bL3.trans ((bL4.trans ((hL5 ▸ below_lit L4 _ : Below L4.heap.size L4 L5).mono bL4.size)).mono bL3.size)); obtain ⟨A6, c6, rfl, f6⟩ := found_at (hf2.below b25); have HQ := Lib.hid (sameAll_yes (c := c6) (d := 1) (n := 1) (ps := [[97]]) (by decide) f6 (fun k hk => by obtain ⟨q1, q2, q3, q4, q5, q6, q7, q8, q9, q10, q11⟩ := p5.at hk; exact ⟨q1, q2, q3, q4, q5, q6, q7, q8, q10, q11⟩)); have K5 := Lib.hid (K2.out.trans (b25.mono K2.out.size)); clear hf2 hb2 bL3 bL4 yL3 yL4 y4 p5 b25 f6)
    | (go_at_call 17; refine (same_yes (by assumption) (by assumption) (by rfl)).mono ?_; rintro e w3 ⟨rfl, rfl⟩)
    | (go_at_call 11; refine (HS.out _).mono ?_; rintro e w4 ⟨rfl, rfl⟩)
    | (go_at_call 24; refine HQ.out.mono ?_; rintro e w6 ⟨rfl, hb6⟩))
  go_ret
  exact ⟨rfl, HB1.out.trans ((K5.out.trans (hb6.mono K5.out.size)).mono HB1.out.size)⟩

set_option maxRecDepth 100000 in
set_option maxHeartbeats 4000000 in
theorem walkFrameSums (A : Option Addr) (n c : Nat) (zs : List Int) (W : World) (h0 : IsRow .u8 W A n c zs) :
    Calls Try.prog 3 #[.slice A n c] W fun e w' => e = .returned (.bool true) ∧ Below W.heap.size W w' := by
  have hA := byt_of_row h0
  clear h0
  have HALV := Lib.hid alive_any
  by_cases hn : (5000 : Int) < (n : Int)
  · clear hA
    go_enter Try.func3, Try.ntmps3
    go_wp2_with (go_at_call 13; refine (HALV.out _).mono ?_; rintro e w1 ⟨rfl, hb1⟩)
    go_ret
    exact ⟨rfl, hb1⟩
  · have HS := Lib.hid (sum_any hA (by omega))
    have HR := Lib.hid (refSum_any hA (by omega))
    clear hA
    go_enter Try.func3, Try.ntmps3
    go_wp2_with (first
      | (go_at_call 11; refine HS.out.mono ?_; rintro e w1 ⟨rfl, rfl⟩)
      | (go_at_call 12; refine HR.out.mono ?_; rintro e w2 ⟨rfl, rfl⟩)
      | (go_at_call 13; refine (HALV.out _).mono ?_; rintro e w3 ⟨rfl, hb3⟩))
    go_ret
    exact ⟨rfl, hb3⟩
end Go.Proofs.Ytfamghmoanfdgaa
