/- Walk: product.copied, of a product without bundles; of any. -/
import Derived.Test.YthjckkcafhiomaaPdCq
namespace Go.Proofs.Ythjckkcafhiomaa.Pd
open Go.RowKit

set_option maxRecDepth 100000 in
set_option maxHeartbeats 16000000 in
theorem copied_zero (p : Pr) (w : World) (hp : PrOk w p) (h6 : p.n ≤ 1000000) (hn0 : p.n = 0) : Calls Try.prog 28 #[.agg p.cells] w (CpOut p w) := by
  obtain ⟨nm, fr, fe, ca, pr, A, n, c, bs⟩ := p
  have hn : bs.length = n := hp.len
  have hnone : A = none → n = 0 := hp.none
  have h6 : n ≤ 1000000 := h6
  have hbs : BnR w A bs := hp.bs
  have hn0 : n = 0 := hn0
  subst hn0
  obtain rfl : bs = [] := by simpa using hn
  obtain ⟨b0, hb0⟩ : ∃ b, w.heap.size = b := ⟨_, rfl⟩
  obtain ⟨L, hL⟩ : ∃ L, (w.alloc (.cells #[.string nm, .int .i64 fr, .int .i64 fe, .string ca, .bool pr, .slice A 0 c] 29)).alloc (.cells #[.string ⟨#[]⟩, .int .i64 0, .int .i64 0, .string ⟨#[]⟩, .bool false, .slice none 0 0] 29) = L := ⟨_, rfl⟩
  have hBL : Below w.heap.size w L := hL ▸ (below_one w _).alloc (by simp) _
  have hp0 : Blk L b0 29 #[.string nm, .int .i64 fr, .int .i64 fe, .string ca, .bool pr, .slice A 0 c] := hL ▸ hb0 ▸ (Blk.new w _ _).alloc _
  have hr0 : Blk L (b0 + 1) 29 #[.string ⟨#[]⟩, .int .i64 0, .int .i64 0, .string ⟨#[]⟩, .bool false, .slice none 0 0] := by
    have h := Blk.new (w.alloc (.cells #[.string nm, .int .i64 fr, .int .i64 fe, .string ca, .bool pr, .slice A 0 c] 29)) 29 #[.string ⟨#[]⟩, .int .i64 0, .int .i64 0, .string ⟨#[]⟩, .bool false, .slice none 0 0]
    rw [World.size_alloc, hb0, hL] at h
    exact h
  have hLs : L.heap.size = b0 + 2 := by rw [← hL, ← hb0]; simp
  have HCL := Lib.hid (cloneB_any A 0 c [] L BnR.nil rfl hnone (by decide))
  have HP := Lib.hid hp; have HBL := Lib.hid hBL; have HP0 := Lib.hid hp0; have HR0 := Lib.hid hr0; have HLS := Lib.hid hLs; have HB0 := Lib.hid hb0
  have HN := Lib.hid hn; have HBS := Lib.hid hbs
  obtain ⟨c0, c1, c2, c3, c4, c5⟩ := hp0.six
  clear hp hn hnone hbs hBL hp0 hr0 hLs
  unfold Pr.cells
  simp only
  go_enter Try.func28, Try.ntmps28
  go_wp2_with (go_at_call 42; go_loud ((with_reducible refine HCL.out.mono ?_); rintro e w1 ⟨v1, rfl, ho1, hb1⟩; obtain ⟨A1, m1, rfl, -, hm1, hg1⟩ := own_formN ho1; have HO1 := Lib.hid ho1; have HB1 := Lib.hid hb1; have HG1 := Lib.hid hm1; have hp1 := HP0.out.below hb1 HP0.out.lt; have hf1 := hp1.frozen 5; obtain ⟨-, -, -, -, -, hc5⟩ := hp1.six; obtain ⟨W2, hW2⟩ : ∃ W2, w1.setCell ⟨b0, 5, none⟩ (.slice A1 0 m1) = W2 := ⟨_, rfl⟩; have hp2 : Blk W2 b0 29 #[.string nm, .int .i64 fr, .int .i64 fe, .string ca, .bool pr, .slice A1 0 m1] := (hW2 ▸ hp1.set_ 5 _); have HW2 := Lib.hid hW2; have HP2 := Lib.hid hp2; clear c0 c1 c2 c3 c4 c5; obtain ⟨c0, c1, c2, c3, c4, c5⟩ := hp2.six; clear hm1 hp2 hp1 ho1 hb1 hg1 hL hb0))
  clear hW2 hf1 hc5
  have HRW : Hid (Blk W2 (b0 + 1) 29 #[.string ⟨#[]⟩, .int .i64 0, .int .i64 0, .string ⟨#[]⟩, .bool false, .slice none 0 0]) := Lib.hid (HW2.out ▸ (HR0.out.below HB1.out HR0.out.lt).far (by simp) _)
  have HBW0 : Hid (Below w.heap.size w W2) := Lib.hid (HW2.out ▸ (HBL.out.trans (HB1.out.mono HBL.out.size)).setCell (by rw [HB0.out]; exact Nat.le_refl _) _)
  go_loopw [12] (fun iv wr => iv = .int .i64 0 ∧ wr = W2) (fun _ _ => 0)
  case atStart => exact ⟨rfl, rfl⟩
  case round =>
    obtain ⟨rfl, rfl⟩ := hrel
    obtain ⟨d0, d1, d2, d3, d4, d5⟩ := HRW.out.six
    have f0 := HRW.out.frozen 0; have f1 := HRW.out.frozen 1; have f2 := HRW.out.frozen 2; have f3 := HRW.out.frozen 3; have f4 := HRW.out.frozen 4; have f5 := HRW.out.frozen 5
    go_wp2_with fail
    obtain ⟨W9, hW9⟩ : ∃ W9, ((((((wr.setCell ⟨b0 + 1, 0, none⟩ (.string nm)).setCell ⟨b0 + 1, 1, none⟩ (.int .i64 fr)).setCell ⟨b0 + 1, 2, none⟩ (.int .i64 fe)).setCell ⟨b0 + 1, 3, none⟩ (.string ca)).setCell ⟨b0 + 1, 4, none⟩ (.bool pr)).setCell ⟨b0 + 1, 5, none⟩ (.slice A1 0 m1)) = W9 := ⟨_, rfl⟩
    have hPut : Put (b0 + 1) 29 #[.string nm, .int .i64 fr, .int .i64 fe, .string ca, .bool pr, .slice A1 0 m1] wr W9 := hW9 ▸ put6_all HRW.out _ _ _ _ _ _
    rw [hW9]
    clear hW9
    exact bodyPost_ret (v := .agg (Pr.cells ⟨nm, fr, fe, ca, pr, A1, 0, m1, []⟩)) (results_cell_row (p := 2) rfl _ _ (b0 + 1) 29 (Pr.cells ⟨nm, fr, fe, ca, pr, A1, 0, m1, []⟩) (0, 0) _ rfl hPut.blk Try.underlying29 rfl rfl) rfl ⟨⟨nm, fr, fe, ca, pr, A1, 0, m1, []⟩, rfl, ⟨rfl, Nat.zero_le _, HG1.out, fun _ => rfl, BnR.nil, HP.out.nm, HP.out.ca⟩, ⟨rfl, rfl, rfl, rfl, rfl, rfl, rfl, fun j hj => absurd hj (Nat.not_lt_zero j)⟩, ⟨fun h => absurd rfl h, fun j hj => absurd hj (Nat.not_lt_zero j)⟩, hPut.below HBW0.out (by have := HB0.out; omega)⟩
theorem copied_any (p : Pr) (w : World) (hp : PrOk w p) (h6 : p.n ≤ 1000000) : Calls Try.prog 28 #[.agg p.cells] w (CpOut p w) := by
  by_cases h : p.n = 0
  · exact copied_zero p w hp h6 h
  · exact copied_pos p w hp h6 (by omega)
end Go.Proofs.Ythjckkcafhiomaa.Pd
