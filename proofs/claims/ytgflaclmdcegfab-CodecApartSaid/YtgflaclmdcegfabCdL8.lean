/- Walk of the law CodecApart. -/
import Derived.Test.YtgflaclmdcegfabRows
import Derived.Test.YtgflaclmdcegfabCdA
namespace Go.Proofs.Ytgflaclmdcegfab
open Go.RowKit

/-- The room's bytes. -/
def room : List Int := [1, 2, 3, 4, 5, 6, 7, 8, 9, 10, 11, 12, 13, 14, 15, 16]
theorem room_num : numR (room, 0) = (-1, ([2, 3, 4, 5, 6, 7, 8, 9, 10, 11, 12, 13, 14, 15, 16], 0)) := by decide
theorem room_at : ∀ k : Fin 16, room[k.val]? = some ((k.val : Int) + 1) := by decide
theorem row_put {w : World} {g k : Nat} {cur : Array Value} {t : TypeId} (h : w.heap[g]? = some (.cells cur t (0, 0))) (hk : k < cur.size) (x : Value) :
    (∃ v, w.cell? ⟨g, k, none⟩ = some v) ∧ w.frozen? ⟨g, k, none⟩ = false ∧ ∃ cur', (w.setCell ⟨g, k, none⟩ x).heap[g]? = some (.cells cur' t (0, 0)) ∧ cur'.size = cur.size := by
  refine ⟨⟨cur[k], by simp [World.cell?, h, hk]⟩, by simp [World.frozen?, h], cur.setIfInBounds k x, ?_, by simp⟩
  simp [World.setCell, Array.getElem?_modify, h]

theorem zb : (-9223372036854775808 : Int) ≤ 0 ∧ (0 : Int) ≤ 9223372036854775807 := by omega
theorem rcz_in (z : Int) (s : ByteArray) (hz : -9223372036854775808 ≤ z ∧ z ≤ 9223372036854775807) (hs : s.size ≤ 100) : Rc.In ⟨0, 0, 0, s, ByteArray.empty, z, 0, 0, 0, false, 0, false⟩ 1000 :=
  ⟨zb, zb, zb, Nat.le_trans hs (by decide), show ByteArray.empty.size ≤ 1000 by decide, hz, zb, zb, zb, zb⟩
theorem own_row {w : World} {base g n c : Nat} {e : TypeId} {xs : List Value} (h : w.ownsRow base e 1 (.slice (some ⟨g, 0, none⟩) n c) n xs) : ∃ cur, w.heap[g]? = some (.cells cur e (0, 0)) ∧ n ≤ cur.size := by
  rcases h.2 with ⟨hv, _⟩ | ⟨g', cap, cur, hv, hb, hg, hnc, hcm, hcs, htake⟩
  · cases hv
  · simp only [Value.slice.injEq, Option.some.injEq, Addr.mk.injEq, and_true, true_and] at hv
    obtain ⟨rfl, rfl⟩ := hv
    exact ⟨cur, hg, by omega⟩
set_option maxRecDepth 100000 in
set_option maxHeartbeats 8000000 in
theorem walkCodecApart (z : Int) (s : ByteArray) (W : World) (h0 : (Lit.int .i64 z).wf = true) (h1 : s.size ≤ maxLen) :
    Calls Try.prog 4 #[.int .i64 z, .string s] W fun e w' => e = .returned (.bool true) ∧ Below W.heap.size W w' := by
  have hz := i64_bounds h0
  clear h0 h1
  have HALV := Lib.hid alive_any
  by_cases hn : (100 : Int) < (s.size : Int)
  · clear hz
    go_enter Try.func4, Try.ntmps4
    go_wp2_with (go_at_call 5; refine (HALV.out _).mono ?_; rintro e w1 ⟨rfl, hb1⟩)
    go_ret
    exact ⟨rfl, hb1⟩
  · have hs : s.size ≤ 100 := by omega
    obtain ⟨L0, hL0, b0, y0⟩ := lit_world W room (by decide) (by decide)
    change W.alloc (.cells #[.int .u8 1, .int .u8 2, .int .u8 3, .int .u8 4, .int .u8 5, .int .u8 6, .int .u8 7, .int .u8 8, .int .u8 9, .int .u8 10, .int .u8 11, .int .u8 12, .int .u8 13, .int .u8 14, .int .u8 15, .int .u8 16] 5) = L0 at hL0
    have y0 : Byt L0 (some ⟨W.heap.size, 0, none⟩) 16 16 room := y0
    have t0 : Byt L0 (some ⟨W.heap.size, 0, none⟩) 1 16 (room.take 1) := byt_take y0 1 (by decide)
    have hP := putNum_any z t0 (by decide) hz
    have hT := fun (w1 : World) (hb : Below L0.heap.size L0 w1) => putTxt_any s (by omega) (t0.below hb) (by decide)
    have hI := fun (w1 L : World) (B : Option Addr) (d : Nat) (hb : Below L0.heap.size L0 L) (hy : Ints L B 2 d [z, z]) => putNums_any (t0.below hb) hy (by decide) (by decide)
    have hR := fun (w1 : World) (hb : Below L0.heap.size L0 w1) => putRec_any (r := ⟨0, 0, 0, s, ByteArray.empty, z, 0, 0, 0, false, 0, false⟩) (t0.below hb) (by decide) (rcz_in z s hz hs)
    have hN := fun (w1 : World) (hb : Below L0.heap.size L0 w1) => codNumber_any (y0.below hb) (by decide)
    rw [room_num] at hN
    have HP := Lib.hid hP; have HT := Lib.hid hT; have HI := Lib.hid hI; have HR := Lib.hid hR; have HN := Lib.hid hN
    have B0 := Lib.hid b0; have Y0 := Lib.hid y0; have HZ := Lib.hid hz
    clear hP hT hI hR hN b0 y0 t0 hz
    go_enter Try.func4, Try.ntmps4
    go_wp2_with (first
      | (go_at_call 6; refine HP.out.mono ?_; rintro e w1 ⟨v1, rfl, ho1, hb1⟩; have K1 := Lib.hid hb1; clear ho1 hb1)
      | (go_at_call 12; refine (HT.out _ K1.out).mono ?_; rintro e w2 ⟨v2, rfl, ho2, hb2⟩; have K2 := Lib.hid (K1.out.trans (hb2.mono K1.out.size)); obtain ⟨L2, hL2, bL2, yL2⟩ := ints_world w2 [z, z] (by intro x hx; simp at hx; subst hx; exact HZ.out); change w2.alloc (.cells #[.int .i64 z, .int .i64 z] 3) = L2 at hL2; have K3 := Lib.hid (K2.out.trans (bL2.mono K2.out.size)); have J := Lib.hid (HI.out w2 L2 _ _ K3.out yL2); clear ho2 hb2 bL2 yL2)
      | (go_at_call 7; refine J.out.mono ?_; rintro e w4 ⟨v4, rfl, ho4, hb4⟩; have K4 := Lib.hid (K3.out.trans (hb4.mono K3.out.size)); clear ho4 hb4)
      | (go_at_call 8; refine (HR.out _ K4.out).mono ?_; rintro e w5 ⟨v5, rfl, ho5, hb5⟩; have K5 := Lib.hid (K4.out.trans (hb5.mono K4.out.size)); clear ho5 hb5)
      | (go_at_call 9; refine (HN.out _ K5.out).mono ?_; rintro e w6 ⟨v6, rfl, ho6, hb6⟩; have K6 := Lib.hid (K5.out.trans (hb6.mono K5.out.size)); obtain ⟨A6, c6, rfl, hc6, hg6⟩ := own_form ho6.1; obtain ⟨g, rfl, hbg, hgl, -⟩ := hg6 (by decide); have HO6 := Lib.hid (own_row ho6.1); have HG6 : Hid (L0.heap.size ≤ g) := Lib.hid (Nat.le_trans K5.out.size hbg); clear ho6 hb6 hg6 hbg hgl))
    go_loopw [9] (fun i wr => ∃ (k : Nat) (cur : Array Value), i = .int .i64 (k : Int) ∧ k ≤ 15 ∧ Hid (wr.heap[g]? = some (.cells cur 5 (0, 0))) ∧ 15 ≤ cur.size ∧ Below L0.heap.size L0 wr) (fun i _ => 15 - (intOf i).toNat)
    case atStart =>
      obtain ⟨cur, q1, q2⟩ := HO6.out
      exact ⟨0, cur, rfl, by omega, q1, q2, K6.out⟩
    case round =>
      obtain ⟨k, cur, rfl, hk, hcur, hcs, hb⟩ := hrel
      by_cases hlt : k < 15
      · have hlt' : (k : Int) < 15 := by omega
        obtain ⟨⟨v, hcv⟩, hfr, cur', hc', hs'⟩ := row_put hcur.out (show k < cur.size by omega) (.int .u8 99)
        have HC' := Lib.hid hc'; have HS' := Lib.hid hs'
        clear hc' hs'
        go_wp2
        go_roundw
        case rel => exact ⟨k + 1, cur', by first | rfl | (simp; omega), by omega, HC'.out, by have := HS'.out; omega, hb.setCell HG6.out _⟩
        case measure => simp [intOf]; omega
      · obtain rfl : k = 15 := by omega
        have HBB := Lib.hid hb
        have YY := Lib.hid (Y0.out.below hb)
        clear hcur hcs hb
        go_wp2
        go_loopw [10] (fun i w9 => ∃ (k : Nat), i = .int .i64 (k : Int) ∧ k ≤ 16 ∧ w9 = wr) (fun i _ => 16 - (intOf i).toNat)
        case atStart => exact ⟨0, rfl, by omega, rfl⟩
        case round =>
          obtain ⟨k, rfl, hk, rfl⟩ := hrel
          by_cases hlt : k < 16
          · have hlt' : (k : Int) < 16 := by omega
            obtain ⟨b1, o1, x, e1, hx, hcell, _⟩ := YY.out.at hlt
            simp only [Option.some.injEq, Addr.mk.injEq, and_true] at e1
            obtain ⟨rfl, rfl⟩ := e1
            have hxk : x = (k : Int) + 1 := by
              have := room_at ⟨k, hlt⟩
              simp only at this
              rw [hx] at this
              exact Option.some.inj this
            subst hxk
            rw [Nat.zero_add] at hcell
            have hmod : ((k : Int) + 1) % 256 = (k : Int) + 1 := by omega
            go_wp2
            go_roundw
            case rel => exact ⟨k + 1, by first | rfl | (simp; omega), by omega, by first | trivial | rfl⟩
            case measure => simp [intOf]; omega
          · obtain rfl : k = 16 := by omega
            go_wp2_with (go_at_call 5; refine (HALV.out _).mono ?_; rintro e w7 ⟨rfl, hb7⟩)
            go_ret
            exact ⟨rfl, (B0.out.trans (HBB.out.mono B0.out.size)).trans (hb7.mono (Nat.le_trans B0.out.size HBB.out.size))⟩
end Go.Proofs.Ytgflaclmdcegfab
