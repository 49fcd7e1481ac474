/- Walk: product.copied. -/
import Derived.Test.YthjckkcafhiomaaPdCp
import Derived.Deep.Cut
namespace Go.Proofs.Ythjckkcafhiomaa.Pd
open Go.RowKit

theorem ZsR.drew {w : World} {A : Option Addr} {l : List ByteArray} (h : ZsR w A l) : ZsR w.drew A l := h
set_option maxRecDepth 100000 in
set_option maxHeartbeats 16000000 in
theorem copied_pos (p : Pr) (w : World) (hp : PrOk w p) (h6 : p.n ≤ 1000000) (hn0 : 0 < p.n) : Calls Try.prog 28 #[.agg p.cells] w (CpOut p w) := by
  obtain ⟨nm, fr, fe, ca, pr, A, n, c, bs⟩ := p
  have hn : bs.length = n := hp.len
  have hnone : A = none → n = 0 := hp.none
  have h6 : n ≤ 1000000 := h6
  have hbs : BnR w A bs := hp.bs
  have hn0 : 0 < n := hn0
  obtain ⟨b0, hb0⟩ : ∃ b, w.heap.size = b := ⟨_, rfl⟩
  obtain ⟨L, hL⟩ : ∃ L, (w.alloc (.cells #[.string nm, .int .i64 fr, .int .i64 fe, .string ca, .bool pr, .slice A n c] 29)).alloc (.cells #[.string ⟨#[]⟩, .int .i64 0, .int .i64 0, .string ⟨#[]⟩, .bool false, .slice none 0 0] 29) = L := ⟨_, rfl⟩
  have hBL : Below w.heap.size w L := hL ▸ (below_one w _).alloc (by simp) _
  have hp0 : Blk L b0 29 #[.string nm, .int .i64 fr, .int .i64 fe, .string ca, .bool pr, .slice A n c] := hL ▸ hb0 ▸ (Blk.new w _ _).alloc _
  have hr0 : Blk L (b0 + 1) 29 #[.string ⟨#[]⟩, .int .i64 0, .int .i64 0, .string ⟨#[]⟩, .bool false, .slice none 0 0] := by
    have h := Blk.new (w.alloc (.cells #[.string nm, .int .i64 fr, .int .i64 fe, .string ca, .bool pr, .slice A n c] 29)) 29 #[.string ⟨#[]⟩, .int .i64 0, .int .i64 0, .string ⟨#[]⟩, .bool false, .slice none 0 0]
    rw [World.size_alloc, hb0, hL] at h
    exact h
  have hLs : L.heap.size = b0 + 2 := by rw [← hL, ← hb0]; simp
  have HCL := Lib.hid (cloneB_any A n c bs L (hbs.below hBL) hn hnone h6)
  have HP := Lib.hid hp; have HBL := Lib.hid hBL; have HP0 := Lib.hid hp0; have HR0 := Lib.hid hr0; have HLS := Lib.hid hLs; have HB0 := Lib.hid hb0
  have HN := Lib.hid hn; have HBS := Lib.hid hbs
  obtain ⟨c0, c1, c2, c3, c4, c5⟩ := hp0.six
  clear hp hn hnone hbs hBL hp0 hr0 hLs
  unfold Pr.cells
  simp only
  go_enter Try.func28, Try.ntmps28
  go_wp2_with (go_at_call 42; go_loud ((with_reducible refine HCL.out.mono ?_); rintro e w1 ⟨v1, rfl, ho1, hb1⟩; obtain ⟨A1, m1, rfl, -, -, hg1⟩ := own_formN ho1; have HO1 := Lib.hid ho1; have HB1 := Lib.hid hb1; have HG1 := Lib.hid hg1; have hp1 := HP0.out.below hb1 HP0.out.lt; have hf1 := hp1.frozen 5; obtain ⟨-, -, -, -, -, hc5⟩ := hp1.six; obtain ⟨W2, hW2⟩ : ∃ W2, w1.setCell ⟨b0, 5, none⟩ (.slice A1 n m1) = W2 := ⟨_, rfl⟩; have hp2 : Blk W2 b0 29 #[.string nm, .int .i64 fr, .int .i64 fe, .string ca, .bool pr, .slice A1 n m1] := (hW2 ▸ hp1.set_ 5 _); have HW2 := Lib.hid hW2; have HP2 := Lib.hid hp2; clear c0 c1 c2 c3 c4 c5; obtain ⟨c0, c1, c2, c3, c4, c5⟩ := hp2.six; clear hp2 hp1 ho1 hb1 hg1 hL hb0))
  clear hW2 hf1 hc5
  obtain ⟨g, rfl, hg1, -⟩ := HG1.out hn0
  have hgb : b0 + 1 < g := by have := HLS.out; omega
  have HS0 : Hid (CpS b0 g n m1 bs L.heap.size 0 W2 bs) := Lib.hid (by
    have hne : b0 ≠ g := by omega
    have hs : W2.heap.size = w1.heap.size := by rw [← HW2.out]; simp [World.setCell]
    have hkeep : ∀ k, k ≠ b0 → W2.heap[k]? = w1.heap[k]? := fun k hk => by rw [← HW2.out]; exact Below.heap_setCell _ _ _ k hk
    refine ⟨?_, HN.out, fun j hj => DeepB.refl _, fun j hj => ?_, hgb, fun j hj => absurd hj (Nat.not_lt_zero j)⟩
    · exact HO1.out.kept (row := some b0) ⟨by rw [← HW2.out]; rfl, by rw [← HW2.out]; rfl, by rw [← HW2.out]; rfl, by omega, fun k _ h => hkeep k (fun e => h (by rw [e]))⟩ (.inr (by simpa [Value.ownBlock] using Ne.symm hne))
    · obtain ⟨b, off, rfl, h1, h2, h3⟩ := HBS.out j (by rw [HN.out]; exact hj)
      have h4 := h3.below (HBL.out)
      have h5 := h4.below HB1.out
      have hz : ∀ a, (bs.getD j bn0).A = some a → (bs.getD j bn0).zs ≠ [] → a.block < b0 := fun a ha hz => by
        obtain ⟨b', off', e', h6, _⟩ := h3.zs 0 (List.length_pos_iff.2 hz)
        rw [ha] at e'
        injection e' with e'
        rw [e', ← HB0.out]; exact h6
      refine ⟨⟨h5.len, h5.cap, h5.max, h5.none, fun k hk => ?_, h5.few⟩, fun hne a ha => ?_⟩
      · obtain ⟨b', off', e', h6, h7, h8⟩ := h5.zs k hk
        have hlt : b' < b0 := hz _ e' (by intro h; rw [h] at hk; exact absurd hk (Nat.not_lt_zero k))
        exact ⟨b', off', e', by omega, (World.cell?_of_block (w := w1) (a := ⟨b', off' + k, none⟩) (hkeep b' (by omega))).trans h7, h8⟩
      · have := hz a ha hne
        exact ⟨by omega, by omega⟩)
  have HRW : Hid (Blk W2 (b0 + 1) 29 #[.string ⟨#[]⟩, .int .i64 0, .int .i64 0, .string ⟨#[]⟩, .bool false, .slice none 0 0]) := Lib.hid (HW2.out ▸ (HR0.out.below HB1.out HR0.out.lt).far (by simp) _)
  have HBW0 : Hid (Below w.heap.size w W2) := Lib.hid (HW2.out ▸ (HBL.out.trans (HB1.out.mono HBL.out.size)).setCell (by rw [HB0.out]; exact Nat.le_refl _) _)
  clear HCL HO1 HG1
  go_loopw [12] (fun iv wr => ∃ (k : Nat) (M : List Bn), iv = .int .i64 k ∧ k ≤ n ∧ Hid (CpS b0 g n m1 bs L.heap.size k wr M) ∧ Hid (Blk wr b0 29 #[.string nm, .int .i64 fr, .int .i64 fe, .string ca, .bool pr, .slice (some ⟨g, 0, none⟩) n m1]) ∧ Hid (Blk wr (b0 + 1) 29 #[.string ⟨#[]⟩, .int .i64 0, .int .i64 0, .string ⟨#[]⟩, .bool false, .slice none 0 0]) ∧ Hid (Below w.heap.size w wr)) (fun iv _ => n - (intOf iv).toNat)
  case atStart => exact ⟨0, bs, rfl, by omega, HS0, HP2, HRW, HBW0⟩
  case round =>
    obtain ⟨k, M, rfl, hk, HS, HP2, HR2, HBW⟩ := hrel
    by_cases hlt : k < n
    · have hlt' : (k : Int) < (n : Int) := by omega
      obtain ⟨b, hb⟩ : ∃ b, M.getD k bn0 = b := ⟨_, rfl⟩
      have hx := HS.out.ok k hlt
      have h6b := bn_six HS.out.own HS.out.len hlt
      rw [hb] at hx h6b
      obtain ⟨bk, bA, bN, bC, bu, br, bp, bsh, zs⟩ := b
      unfold Bn.cells at h6b
      simp only at h6b
      obtain ⟨e0, e1, e2, e3, e4, e5⟩ := h6b.all
      have hzl : zs.length = bN := hx.1.len
      have hzn : bA = none → bN = 0 := hx.1.none
      have hz6 : bN ≤ 8796093021952 := hx.1.few
      have hzz : ZsR wr bA zs := hx.1.zs
      have hzs : ∀ s ∈ zs, s.size ≤ maxLen := fun s hs => by
        obtain ⟨j, hj, rfl⟩ := List.mem_iff_getElem.1 hs
        obtain ⟨_, _, _, _, _, h3⟩ := hzz j hj
        simpa [List.getD, List.getElem?_eq_getElem hj] using h3
      obtain ⟨c0, c1, c2, c3, c4, c5⟩ := HP2.out.six
      obtain ⟨q, hq⟩ : ∃ q, wr.heap.size = q := ⟨_, rfl⟩
      obtain ⟨R, hR⟩ : ∃ R, wr.alloc (.cells #[.int .i64 bk, .slice bA bN bC, .int .i64 bu, .int .i64 br, .int .i64 bp, .bool bsh] 48) = R := ⟨_, rfl⟩
      have hbR : Below wr.heap.size wr R := hR ▸ below_one wr _
      have hqR : Blk R q 48 #[.int .i64 bk, .slice bA bN bC, .int .i64 bu, .int .i64 br, .int .i64 bp, .bool bsh] := hR ▸ hq ▸ Blk.new wr _ _
      have HSR := Lib.hid (HS.out.below hbR); have HPR := Lib.hid (HP2.out.below hbR HP2.out.lt); have HRR := Lib.hid (HR2.out.below hbR HR2.out.lt)
      have HBR := Lib.hid (HBW.out.trans (hbR.mono HBW.out.size)); have HQR := Lib.hid hqR
      have HCZ := Lib.hid (fun (W : World) (h : ZsR W bA zs) => cloneZ_any bA bN bC zs W h hzl hzn hz6)
      have HZR := Lib.hid (hzz.below hbR)
      have hgR : g < R.heap.size := (World.ownsRow.lt HSR.out.own g rfl).2
      have HGR := Lib.hid hgR
      have HZ := Lib.hid (show zs.length = bN ∧ (∀ s ∈ zs, s.size ≤ maxLen) from ⟨hzl, hzs⟩)
      have HS9 := Lib.hid HS.out.own
      clear hzl hzn hz6 hzz hzs hx h6b HS hgR
      obtain ⟨q0, q1, q2, q3, q4, q5⟩ := hqR.six
      have hp5 := HPR.out.six.2.2.2.2.2
      go_wp2_with fail
      have hgn1 : g ≠ b0 := by omega
      have hgn2 : g ≠ q := by have := HQR.out.lt; have := (World.ownsRow.lt HS9.out g rfl).2; omega
      have hgn3 : b0 ≠ g := Ne.symm hgn1
      have hgn4 : q ≠ g := Ne.symm hgn2
      clear hR hq e0 e1 e2 e3 e4 e5 hbR hqR
      go_region_held3 (fun w' => w'.cell? ⟨b0, 5, none⟩ = some (.slice (some ⟨g, 0, none⟩) n m1) ∧ w'.cell? ⟨q, 1, none⟩ = some (.slice bA bN bC)) (go_keep)
        (first
          | (go_at_call 43; (with_reducible refine (HCZ.out _ HZR.out.drew).mono ?_); rintro e w3 ⟨v3, rfl, ho3, hb3⟩; have hbL : Below R.heap.size R w3 := ⟨hb3.os, hb3.tape, hb3.output, hb3.size, hb3.block⟩; obtain ⟨A3, m3, rfl, x1, x2, x3, x4⟩ := txt_own ho3 HZ.out.1 HZ.out.2; have HS3 := Lib.hid (HSR.out.below hbL); have HP3 := Lib.hid (HPR.out.below hbL HPR.out.lt); have HR3 := Lib.hid (HRR.out.below hbL HRR.out.lt); have HB3 := Lib.hid (HBR.out.trans (hbL.mono HBR.out.size)); have p5 := HP3.out.six.2.2.2.2.2; have p1 := (HQR.out.below hbL HQR.out.lt).six.2.1; have HX3 := Lib.hid (show bN ≤ m3 ∧ m3 ≤ maxLen ∧ ZsR w3 A3 zs ∧ (A3 = none → bN = 0) from ⟨x1, x2, x3, x4⟩); have HO3 := Lib.hid ho3; have hf := World.ownsRow.frozenAt HS3.out.own (k * 6 + 1); have hc := (bn_six HS3.out.own HS3.out.len hlt) 1 (by decide); rw [hb] at hc; simp only [Bn.cells] at hc; clear x1 x2 x3 x4 ho3 hb3 hbL))
      go_wp2_with fail
      go_roundw
      case rel =>
        have h1 := HS3.out.step (A := A3) (m := m3) hlt
        rw [hb] at h1
        refine ⟨k + 1, _, by go_num, by omega, Lib.hid (h1 HX3.out.1 HX3.out.2.1 HX3.out.2.2.1 HX3.out.2.2.2 fun a ha => ?_), Lib.hid (HP3.out.far hgn3 _), Lib.hid (HR3.out.far (show b0 + 1 ≠ g by omega) _), Lib.hid (HB3.out.setCell (by have := HB0.out; show w.heap.size ≤ g; omega) _)⟩
        have h2 : R.heap.size ≤ a.block := (World.ownsRow.lt HO3.out a.block (by rw [ha]; rfl)).1
        have := HGR.out
        have := HB0.out; have := HLS.out
        exact ⟨⟨by omega, by omega⟩, by omega⟩
      case measure => simp [intOf]; omega
    · obtain rfl : k = n := by omega
      obtain ⟨c0, c1, c2, c3, c4, c5⟩ := HP2.out.six
      obtain ⟨d0, d1, d2, d3, d4, d5⟩ := HR2.out.six
      have f0 := HR2.out.frozen 0; have f1 := HR2.out.frozen 1; have f2 := HR2.out.frozen 2; have f3 := HR2.out.frozen 3; have f4 := HR2.out.frozen 4; have f5 := HR2.out.frozen 5
      go_wp2_with fail
      obtain ⟨W9, hW9⟩ : ∃ W9, ((((((wr.setCell ⟨b0 + 1, 0, none⟩ (.string nm)).setCell ⟨b0 + 1, 1, none⟩ (.int .i64 fr)).setCell ⟨b0 + 1, 2, none⟩ (.int .i64 fe)).setCell ⟨b0 + 1, 3, none⟩ (.string ca)).setCell ⟨b0 + 1, 4, none⟩ (.bool pr)).setCell ⟨b0 + 1, 5, none⟩ (.slice (some ⟨g, 0, none⟩) k m1)) = W9 := ⟨_, rfl⟩
      have hPut : Put (b0 + 1) 29 #[.string nm, .int .i64 fr, .int .i64 fe, .string ca, .bool pr, .slice (some ⟨g, 0, none⟩) k m1] wr W9 := hW9 ▸ put6_all HR2.out _ _ _ _ _ _
      rw [hW9]
      clear hW9
      refine bodyPost_ret (v := .agg (Pr.cells ⟨nm, fr, fe, ca, pr, some ⟨g, 0, none⟩, k, m1, M⟩)) (results_cell_row (p := 2) rfl _ _ (b0 + 1) 29 (Pr.cells ⟨nm, fr, fe, ca, pr, some ⟨g, 0, none⟩, k, m1, M⟩) (0, 0) _ rfl hPut.blk Try.underlying29 rfl rfl) rfl ⟨⟨nm, fr, fe, ca, pr, some ⟨g, 0, none⟩, k, m1, M⟩, rfl, ?_, ?_, ?_, hPut.below HBW.out (by have := HB0.out; omega)⟩
      · have hne : g ≠ b0 + 1 := by omega
        have hown := HS.out.own
        have hsz := hPut.size
        have hown9 : W9.ownsRow L.heap.size 48 6 (.slice (some ⟨g, 0, none⟩) k m1) k (bsl M) :=
          hown.kept (row := some (b0 + 1)) ⟨hPut.os, hPut.tape, hPut.output, by omega, fun j _ h => hPut.keep j (fun e => h (by rw [e]))⟩ (.inr (by simpa [Value.ownBlock] using hne))
        obtain ⟨A9, c9, h9, x1, x2, x3, x4⟩ := bn_own hown9 HS.out.len (fun j hj => ((HS.out.ok j hj).keep (fun i _ h2 => hPut.keep i h2) (by omega)).1)
        obtain ⟨rfl, rfl⟩ : some ⟨g, 0, none⟩ = A9 ∧ m1 = c9 := by injection h9 with a b c; exact ⟨a, c⟩
        exact ⟨HS.out.len, x1, x2, x4, x3, HP.out.nm, HP.out.ca⟩
      · exact ⟨rfl, rfl, rfl, rfl, rfl, rfl, by show M.length = bs.length; rw [HS.out.len, HP.out.len], fun j hj => HS.out.deep j (by have h1 : bs.length = k := HP.out.len; have h2 : j < bs.length := hj; omega)⟩
      · exact ⟨fun _ a ha => by injection ha with ha; subst ha; have := HB0.out; show w.heap.size ≤ g; omega, fun j hj => by rw [HB0.out]; exact HS.out.new j (by rw [← HS.out.len]; exact hj)⟩
end Go.Proofs.Ythjckkcafhiomaa.Pd
