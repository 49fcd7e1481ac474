/- Walk: the chapter's examples. -/
import Derived.Test.YtlcjpnagjiemiaaRows
import Derived.Test.YtlcjpnagjiemiaaCdN
import Derived.Test.YtlcjpnagjiemiaaCdQ
namespace Go.Proofs.Ytlcjpnagjiemiaa
open Go.RowKit

theorem byt_lit (w : World) (l : List Int) (hr : ∀ x ∈ l, 0 ≤ x ∧ x ≤ 255) (hn : l.length ≤ maxLen) : Byt (w.alloc (.cells (C8 l).toArray 5)) (some ⟨w.heap.size, 0, none⟩) l.length l.length l := by
  refine ⟨⟨C8_len l, C8_one l, .inr ⟨_, rfl, fun j u hu => ⟨by simp, ?_⟩⟩⟩, Nat.le_refl _, hn, hr⟩
  have h := heap_alloc_new w (.cells (C8 l).toArray 5)
  rw [add_none, Nat.zero_add]
  simp only [World.cell?, h]
  simpa using hu
theorem ints_lit (w : World) (l : List Int) (hr : ∀ x ∈ l, -9223372036854775808 ≤ x ∧ x ≤ 9223372036854775807) : Ints (w.alloc (.cells (l.map (Value.int .i64)).toArray 3)) (some ⟨w.heap.size, 0, none⟩) l.length l.length l := by
  refine ⟨⟨by simp, fun u hu => by simp at hu; obtain ⟨z, _, rfl⟩ := hu; rfl, .inr ⟨_, rfl, fun j u hu => ⟨by simp, ?_⟩⟩⟩, hr⟩
  have h := heap_alloc_new w (.cells (l.map (Value.int .i64)).toArray 3)
  rw [add_none, Nat.zero_add]
  simp only [World.cell?, h]
  simpa using hu
theorem below_lit (w : World) (o : Obj) : Below w.heap.size w (w.alloc o) := (Below.refl _ _).alloc (Nat.le_refl _) o
theorem same_yes {A B : Option Addr} {n c m d : Nat} {a b : List Int} {w : World} (hA : Byt w A n c a) (hB : Byt w B m d b) (h : a = b) :
    Calls Try.prog 11 #[.slice A n c, .slice B m d] w fun e w' => e = .returned (.bool true) ∧ w = w' :=
  (same_any hA hB).mono fun e w' ⟨h1, h2⟩ => ⟨by rw [h1]; simp [h], h2⟩
theorem lit_world (w : World) (l : List Int) (hr : ∀ x ∈ l, 0 ≤ x ∧ x ≤ 255) (hn : l.length ≤ maxLen) : ∃ L, w.alloc (.cells (C8 l).toArray 5) = L ∧ Below w.heap.size w L ∧ Byt L (some ⟨w.heap.size, 0, none⟩) l.length l.length l := ⟨_, rfl, below_lit w _, byt_lit w l hr hn⟩
theorem ints_world (w : World) (l : List Int) (hr : ∀ x ∈ l, -9223372036854775808 ≤ x ∧ x ≤ 9223372036854775807) : ∃ L, w.alloc (.cells (l.map (Value.int .i64)).toArray 3) = L ∧ Below w.heap.size w L ∧ Ints L (some ⟨w.heap.size, 0, none⟩) l.length l.length l := ⟨_, rfl, below_lit w _, ints_lit w l hr⟩
theorem numE_small {z : Int} (h : zig z < 128) : numE z = [(zig z : Int)] := grp_small h
theorem rc0_in : rc0.In 1000 := by constructor <;> decide
theorem rc0_enc : rc0.enc = [0, 0, 0, 0, 0, 0, 0, 0, 0, 0, 0, 0] := by
  have h0 : numE 0 = [0] := numE_small (by decide)
  have ht : txtE ByteArray.empty = [0] := by simp [txtE, h0, strB]
  simp [Rc.enc, rc0, bnum, h0, ht]
theorem sig_a : numR ([128, 1, 9], 0) = (64, ([9], 0)) := by decide
theorem enc_a : [] ++ (numE (([1, -1] : List Int).length : Int) ++ listE [1, -1]) = ([4, 2, 1] : List Int) := by
  rw [show (([1, -1] : List Int).length : Int) = 2 by rfl]
  simp only [listE]
  rw [numE_small (z := 2) (by decide), numE_small (z := 1) (by decide), numE_small (z := -1) (by decide)]
  decide
theorem enc_b {s : ByteArray} (h : strB s = [97, 98]) : [7] ++ txtE s = ([7, 4, 97, 98] : List Int) ∧ s.size ≤ 1000 := by
  have h2 : s.size = 2 := by rw [← strB_len, h]; rfl
  refine ⟨?_, by omega⟩
  rw [txtE, h2, numE_small (by decide), h]
  decide
theorem putTxt_b {L : World} {A : Option Addr} (y : Byt L A ([7] : List Int).length ([7] : List Int).length [7]) (s : ByteArray) (h : strB s = [97, 98]) :
    Calls Try.prog 22 #[.slice A 1 1, .string s] L (Gives L L.heap.size [7, 4, 97, 98]) := by
  have := putTxt_any s (Nat.le_trans (enc_b h).2 (by decide)) y (by decide)
  rwa [(enc_b h).1] at this

set_option maxRecDepth 100000 in
set_option maxHeartbeats 4000000 in
theorem alive_any (w : World) : Calls Try.prog 14 #[] w fun e w' => e = .returned (.bool true) ∧ Below w.heap.size w w' := by
  obtain ⟨L1, hL1, bL1, yL1⟩ := lit_world w [128, 1, 9] (by decide) (by decide); change w.alloc (.cells #[.int .u8 128, .int .u8 1, .int .u8 9] 5) = L1 at hL1
  have hN := codNumber_any yL1 (by decide)
  rw [sig_a] at hN
  have HN := Lib.hid hN; have BL1 := Lib.hid bL1
  have hR := fun w1 => putRec_any (byt_nil w1) (by decide) rc0_in
  rw [rc0_enc] at hR
  have HR := Lib.hid hR
  clear hN hR bL1 yL1
  go_enter Try.func14, Try.ntmps14
  go_wp2_with (first
    | (go_at_call 15; refine HN.out.mono ?_; rintro e w1 ⟨v1, rfl, ho1, hb1⟩; have HB1 := Lib.hid (BL1.out.trans (hb1.mono BL1.out.size)); obtain ⟨A1, m1, c1, rfl, hm1, hB1⟩ := ho1.bytm; obtain ⟨L2, hL2, bL2, yL2⟩ := ints_world w1 [1, -1] (by decide); change w1.alloc (.cells #[.int .i64 1, .int .i64 (-1)] 3) = L2 at hL2; have HP := Lib.hid (putNums_any (byt_nil L2) yL2 (by decide) (by decide)); rw [enc_a] at HP; have Y1 := Lib.hid hB1; have BL2 := Lib.hid bL2; clear ho1 hb1 hB1 bL2 yL2)
    | (go_at_call 28; refine HP.out.mono ?_; rintro e w2 ⟨v2, rfl, ho2, hb2⟩; have K2 := Lib.hid (BL2.out.trans (hb2.mono BL2.out.size)); obtain ⟨A2, m2, c2, rfl, hm2, hB2⟩ := ho2.bytm; obtain ⟨L3, hL3, bL3, yL3⟩ := lit_world w2 [4, 2, 1] (by decide) (by decide); change w2.alloc (.cells #[.int .u8 4, .int .u8 2, .int .u8 1] 5) = L3 at hL3; obtain ⟨L4, hL4, bL4, yL4⟩ := lit_world L3 [7] (by decide) (by decide); change L3.alloc (.cells #[.int .u8 7] 5) = L4 at hL4; have x3 := hB2.below bL3; have y3 : Byt L3 (some ⟨w2.heap.size, 0, none⟩) 3 3 [4, 2, 1] := yL3; have HT := Lib.hid (putTxt_b yL4); have K4 := Lib.hid (K2.out.trans ((bL3.trans (bL4.mono bL3.size)).mono K2.out.size)); clear ho2 hb2 hB2 bL3 bL4 yL3 yL4)
    | (go_at_call 11; refine (same_yes (by assumption) (by assumption) (by rfl)).mono ?_; rintro e w3 ⟨rfl, rfl⟩)
    | (go_at_call 22; refine (HT.out _ (by rfl)).mono ?_; rintro e w4 ⟨v4, rfl, ho4, hb4⟩; obtain ⟨A4, m4, c4, rfl, hm4, hB4⟩ := ho4.bytm; obtain ⟨L5, hL5, bL5, yL5⟩ := lit_world w4 [7, 4, 97, 98] (by decide) (by decide); change w4.alloc (.cells #[.int .u8 7, .int .u8 4, .int .u8 97, .int .u8 98] 5) = L5 at hL5; obtain ⟨L6, hL6, bL6, yL6⟩ := lit_world L5 [9] (by decide) (by decide); change L5.alloc (.cells #[.int .u8 9] 5) = L6 at hL6; have x5 := hB4.below bL5; have y5 : Byt L5 (some ⟨w4.heap.size, 0, none⟩) 4 4 [7, 4, 97, 98] := yL5; have K6 := Lib.hid (K4.out.trans ((hb4.trans ((bL5.trans (bL6.mono bL5.size)).mono hb4.size)).mono K4.out.size)); have x6 := Y1.out.below K6.out; have y6 : Byt L6 (some ⟨L5.heap.size, 0, none⟩) 1 1 [9] := yL6; clear ho4 hb4 hB4 bL5 bL6 yL5 yL6)
    | (go_at_call 26; refine (HR.out _).mono ?_; rintro e w7 ⟨v7, rfl, ho7, hb7⟩; have K7 := Lib.hid (K6.out.trans (hb7.mono K6.out.size)); obtain ⟨A7, m7, c7, rfl, hm7, hB7⟩ := ho7.bytm; obtain rfl : m7 = 12 := hm7.out; clear ho7 hb7 hB7))
  go_ret
  exact ⟨rfl, HB1.out.trans (K7.out.mono HB1.out.size)⟩
end Go.Proofs.Ytlcjpnagjiemiaa
