/- Walk: the chapter's examples hold. -/
import Derived.Test.YthjckkcafhiomaaPdAx
namespace Go.Proofs.Ythjckkcafhiomaa.Pd
open Go.RowKit

set_option maxRecDepth 100000 in
set_option maxHeartbeats 32000000 in
theorem awake_any (w : World) : Calls Try.prog 9 #[] w fun e w' => e = .returned (.bool true) ∧ Below w.heap.size w w' := by
  obtain ⟨g, hg⟩ : ∃ g, w.heap.size = g := ⟨_, rfl⟩
  obtain ⟨L, hL⟩ : ∃ L, w.alloc (.cells #[.string ⟨#[102, 108, 97, 116]⟩, .int .i64 0, .int .i64 100, .string ⟨#[102, 101, 101, 115]⟩, .bool false, .slice none 0 0, .string ⟨#[102, 108, 97, 116]⟩, .int .i64 1000, .int .i64 120, .string ⟨#[102, 101, 101, 115]⟩, .bool false, .slice none 0 0] 29) = L := ⟨_, rfl⟩
  have hbL : Below w.heap.size w L := hL ▸ below_one w _
  have hB : Blk L g 29 #[.string ⟨#[102, 108, 97, 116]⟩, .int .i64 0, .int .i64 100, .string ⟨#[102, 101, 101, 115]⟩, .bool false, .slice none 0 0, .string ⟨#[102, 108, 97, 116]⟩, .int .i64 1000, .int .i64 120, .string ⟨#[102, 101, 101, 115]⟩, .bool false, .slice none 0 0] := hL ▸ hg ▸ Blk.new w _ _
  have HB := Lib.hid hB; have HBL := Lib.hid hbL
  clear hbL hB
  go_enter Try.func9, Try.ntmps9
  go_wp2_with (first
    | (go_at_call 20; (with_reducible refine (awFe g L HB.out).mono ?_); rintro e w1 ⟨v1, rfl, ho1, hb1⟩; obtain ⟨A1, m1, rfl, -, -, hf1, -⟩ := fd_own ho1 rfl; have HF1 := Lib.hid hf1; have HB1 := Lib.hid (HB.out.below hb1 HB.out.lt); have HBL1 := Lib.hid (HBL.out.trans (hb1.mono HBL.out.size)); clear ho1 hb1 hf1)
    | (go_at_call 13; (with_reducible refine (awAt g _ HB1.out).mono ?_); rintro e w2 ⟨p', rfl, hfe, hb2⟩; obtain ⟨qn, qfr, qfe, qca, qpr, qA, qN, qC, qbs⟩ := p'; simp only at hfe; subst hfe; simp only [Pr.cells]; have HB2 := Lib.hid (HB1.out.below hb2 HB1.out.lt); have HF2 := Lib.hid (HF1.out.below hb2); have HBL2 := Lib.hid (HBL1.out.trans (hb2.mono HBL1.out.size)); clear hb2))
  clear hL hg
  obtain ⟨gf, of, hA1, hl2, a0, a1, a2⟩ := HF2.out 0 (by decide)
  obtain ⟨gf', of', hA2, -, a3, a4, a5⟩ := HF2.out 1 (by decide)
  subst hA1
  obtain ⟨rfl, rfl⟩ : gf = gf' ∧ of = of' := by injection hA2 with h; injection h with h1 h2 h3; exact ⟨h1, h2⟩
  obtain ⟨W3, hW3⟩ : ∃ W3, w2.alloc (.cells #[.string qn, .int .i64 qfr, .int .i64 100, .string qca, .bool qpr, .slice qA qN qC] 29) = W3 := ⟨_, rfl⟩
  obtain ⟨gp, hgp⟩ : ∃ gp, w2.heap.size = gp := ⟨_, rfl⟩
  have hb3 : Below w2.heap.size w2 W3 := hW3 ▸ below_one w2 _
  have HB3 := Lib.hid (HB2.out.below hb3 HB2.out.lt)
  have hP3 : Blk W3 gp 29 #[.string qn, .int .i64 qfr, .int .i64 100, .string qca, .bool qpr, .slice qA qN qC] := hW3 ▸ hgp ▸ Blk.new w2 _ _
  have HT3 : Hid (Ex W3 g gf of gp) := Lib.hid (by
    have k := HB3.out
    exact ⟨k.cell 0, k.cell 1, k.cell 2, k.cell 3, k.cell 4, k.cell 5, k.cell 6, k.cell 7, k.cell 8, k.cell 9, k.cell 10, k.cell 11, (hb3.cell (p := ⟨gf, of, none⟩) hl2).trans a0, (hb3.cell (p := ⟨gf, of + 1, none⟩) hl2).trans a1, (hb3.cell (p := ⟨gf, of + 2, none⟩) hl2).trans a2, (hb3.cell (p := ⟨gf, of + 3, none⟩) hl2).trans a3, (hb3.cell (p := ⟨gf, of + 3 + 1, none⟩) hl2).trans a4, (hb3.cell (p := ⟨gf, of + 3 + 2, none⟩) hl2).trans a5, hP3.cell 2⟩)
  have hbW : Below w.heap.size w W3 := HBL2.out.trans (hb3.mono HBL2.out.size)
  have l1 : g < W3.heap.size := HB3.out.lt
  have l2 : gf < W3.heap.size := Nat.lt_of_lt_of_le hl2 hb3.size
  have l3 : gp < W3.heap.size := hP3.lt
  have LL := Lib.hid (show g < W3.heap.size ∧ gf < W3.heap.size ∧ gp < W3.heap.size from ⟨l1, l2, l3⟩)
  have HBW := Lib.hid hbW
  rw [hW3, hgp]
  obtain ⟨y0_0, y0_1, y0_2, y0_3, y0_4, y0_5, y0_6, y0_7, y0_8, y0_9, y0_10, y0_11, y0_12, y0_13, y0_14, y0_15, y0_16, y0_17, y0_18⟩ := HT3.out
  have heq1 := eqPriced_same 500 1000 100
  have heq2 := eqPriced_same 1000 1500 120
  have hgd := guardPriced
  clear hW3 hgp a0 a1 a2 a3 a4 a5 hl2 hA2 hb3 hP3 hbW l1 l2 l3 HB HB1 HB2 HBL HBL1 HBL2 HF1 HF2
  go_region_held3 (fun w' => w'.cell? ⟨g, 0, none⟩ = some (.string ⟨#[102, 108, 97, 116]⟩) ∧ w'.cell? ⟨g, 1, none⟩ = some (.int .i64 0) ∧ w'.cell? ⟨g, 2, none⟩ = some (.int .i64 100) ∧ w'.cell? ⟨g, 3, none⟩ = some (.string ⟨#[102, 101, 101, 115]⟩) ∧ w'.cell? ⟨g, 4, none⟩ = some (.bool false) ∧ w'.cell? ⟨g, 5, none⟩ = some (.slice none 0 0) ∧ w'.cell? ⟨g, 6, none⟩ = some (.string ⟨#[102, 108, 97, 116]⟩) ∧ w'.cell? ⟨g, 7, none⟩ = some (.int .i64 1000) ∧ w'.cell? ⟨g, 8, none⟩ = some (.int .i64 120) ∧ w'.cell? ⟨g, 9, none⟩ = some (.string ⟨#[102, 101, 101, 115]⟩) ∧ w'.cell? ⟨g, 10, none⟩ = some (.bool false) ∧ w'.cell? ⟨g, 11, none⟩ = some (.slice none 0 0) ∧ w'.cell? ⟨gf, of, none⟩ = some (.int .i64 500) ∧ w'.cell? ⟨gf, of + 1, none⟩ = some (.int .i64 1000) ∧ w'.cell? ⟨gf, of + 2, none⟩ = some (.int .i64 100) ∧ w'.cell? ⟨gf, of + 3, none⟩ = some (.int .i64 1000) ∧ w'.cell? ⟨gf, of + 3 + 1, none⟩ = some (.int .i64 1500) ∧ w'.cell? ⟨gf, of + 3 + 2, none⟩ = some (.int .i64 120) ∧ w'.cell? ⟨gp, 2, none⟩ = some (.int .i64 100))
    (go_keep)
    (first
      | (go_at_call 10; (with_reducible refine (awCk g _ HB3.out.drew).mono ?_); rintro e w4 ⟨rfl, hb4⟩; have hb4' : Below W3.heap.size W3 w4 := ⟨hb4.os, hb4.tape, hb4.output, hb4.size, hb4.block⟩; have HB4 := Lib.hid (HB3.out.below hb4' HB3.out.lt); have HT4 := Lib.hid (HT3.out.below hb4' LL.out.1 LL.out.2.1 LL.out.2.2); have Z4 := Lib.hid hb4'; obtain ⟨y4_0, y4_1, y4_2, y4_3, y4_4, y4_5, y4_6, y4_7, y4_8, y4_9, y4_10, y4_11, y4_12, y4_13, y4_14, y4_15, y4_16, y4_17, y4_18⟩ := HT4.out; clear hb4 hb4')
      | (go_at_call 10; (with_reducible refine (awCk2 w4).mono ?_); rintro e w5 ⟨rfl, hb5⟩; have Z5 := Lib.hid (Z4.out.trans (hb5.mono Z4.out.size)); have HB5 := Lib.hid (HB3.out.below Z5.out HB3.out.lt); have HT5 := Lib.hid (HT3.out.below Z5.out LL.out.1 LL.out.2.1 LL.out.2.2); obtain ⟨y5_0, y5_1, y5_2, y5_3, y5_4, y5_5, y5_6, y5_7, y5_8, y5_9, y5_10, y5_11, y5_12, y5_13, y5_14, y5_15, y5_16, y5_17, y5_18⟩ := HT5.out; clear hb5)
      | (go_at_call 17; (with_reducible refine (awN1 g _ HB5.out).mono ?_); rintro e w6 ⟨A6, c6, rfl, hb6⟩; have Z6 := Lib.hid (Z5.out.trans (hb6.mono Z5.out.size)); have HB6 := Lib.hid (HB3.out.below Z6.out HB3.out.lt); have HT6 := Lib.hid (HT3.out.below Z6.out LL.out.1 LL.out.2.1 LL.out.2.2); obtain ⟨y6_0, y6_1, y6_2, y6_3, y6_4, y6_5, y6_6, y6_7, y6_8, y6_9, y6_10, y6_11, y6_12, y6_13, y6_14, y6_15, y6_16, y6_17, y6_18⟩ := HT6.out; clear hb6)
      | (go_at_call 17; (with_reducible refine (awN2 g _ HB6.out).mono ?_); rintro e w7 ⟨A7, c7, rfl, hb7⟩; have Z7 := Lib.hid (Z6.out.trans (hb7.mono Z6.out.size)); have HT7 := Lib.hid (HT3.out.below Z7.out LL.out.1 LL.out.2.1 LL.out.2.2); obtain ⟨y7_0, y7_1, y7_2, y7_3, y7_4, y7_5, y7_6, y7_7, y7_8, y7_9, y7_10, y7_11, y7_12, y7_13, y7_14, y7_15, y7_16, y7_17, y7_18⟩ := HT7.out; clear hb7))
  clear y4_0 y4_1 y4_2 y4_3 y4_4 y4_5 y4_6 y4_7 y4_8 y4_9 y4_10 y4_11 y4_12 y4_13 y4_14 y4_15 y4_16 y4_17 y4_18 y5_0 y5_1 y5_2 y5_3 y5_4 y5_5 y5_6 y5_7 y5_8 y5_9 y5_10 y5_11 y5_12 y5_13 y5_14 y5_15 y5_16 y5_17 y5_18 y6_0 y6_1 y6_2 y6_3 y6_4 y6_5 y6_6 y6_7 y6_8 y6_9 y6_10 y6_11 y6_12 y6_13 y6_14 y6_15 y6_16 y6_17 y6_18
  go_wp2_with fail
  go_ret
  exact ⟨rfl, HBW.out.trans (Z7.out.mono HBW.out.size)⟩
end Go.Proofs.Ythjckkcafhiomaa.Pd
