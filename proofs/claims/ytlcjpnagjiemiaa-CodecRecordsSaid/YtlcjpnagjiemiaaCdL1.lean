/- Walk of the law CodecNumbers. -/
import Derived.Test.YtlcjpnagjiemiaaRows
import Derived.Test.YtlcjpnagjiemiaaCdA
namespace Go.Proofs.Ytlcjpnagjiemiaa
open Go.RowKit

theorem byt_of_row {w : World} {a : Option Addr} {len cap : Nat} {zs : List Int} (h : IsRow .u8 w a len cap zs) : Byt w a len cap (zs.take len) := by
  have hh := has_row h
  rcases h with ⟨rfl, rfl, rfl, rfl⟩ | ⟨x, rfl, hl, hm, hz, hc, hw⟩
  · exact byt_nil w
  · exact ⟨hh, hl, hm, fun z hz' => u8_bounds (hw z (List.mem_of_mem_take hz'))⟩

set_option maxRecDepth 100000 in
set_option maxHeartbeats 4000000 in
theorem walkCodecNumbers (A : Option Addr) (n c : Nat) (zs : List Int) (z : Int) (W : World) (h0 : IsRow .u8 W A n c zs) (h1 : (Lit.int .i64 z).wf = true) :
    Calls Try.prog 3 #[.slice A n c, .int .i64 z] W fun e w' => e = .returned (.bool true) ∧ Below W.heap.size W w' := by
  have hA := byt_of_row h0
  have hz := i64_bounds h1
  clear h0 h1
  have HALV := Lib.hid alive_any
  by_cases hn : (100 : Int) < (n : Int)
  · clear hA hz
    go_enter Try.func3, Try.ntmps3
    go_wp2_with (go_at_call 14; refine (HALV.out _).mono ?_; rintro e w1 ⟨rfl, hb1⟩)
    go_ret
    exact ⟨rfl, hb1⟩
  · have HP := Lib.hid (putNum_any z hA (by omega) hz)
    have HA := Lib.hid hA; have HZ := Lib.hid hz
    have hn9 : n ≤ 900000000 := by omega
    have HN := Lib.hid hn9
    clear hA hz hn9
    go_enter Try.func3, Try.ntmps3
    go_wp2_with (first
      | (go_at_call 12; refine HP.out.mono ?_; rintro e w1 ⟨v1, rfl, ho1, hb1⟩; have HB1 := Lib.hid hb1; obtain ⟨A1, m1, c1, rfl, hm1, y1⟩ := ho1.bytm; have HR := Lib.hid (refPutNum_any z (HA.out.below hb1) HN.out HZ.out); have Y1 := Lib.hid y1; clear ho1 hb1 y1)
      | (go_at_call 13; refine HR.out.mono ?_; rintro e w2 ⟨v2, rfl, ho2, hb2⟩; obtain ⟨A2, m2, c2, rfl, hm2, y2⟩ := ho2.bytm; have x1 := Y1.out.below hb2; have HB2 := Lib.hid (HB1.out.trans (hb2.mono HB1.out.size)); clear ho2 hb2)
      | (go_at_call 11; refine (same_yes (by assumption) (by assumption) (by rfl)).mono ?_; rintro e w3 ⟨rfl, rfl⟩)
      | (go_at_call 14; refine (HALV.out _).mono ?_; rintro e w4 ⟨rfl, hb4⟩))
    go_ret
    exact ⟨rfl, HB2.out.trans (hb4.mono HB2.out.size)⟩
end Go.Proofs.Ytlcjpnagjiemiaa
