/- Walks: the discounts of a tariff; Tariff. -/
import Derived.Test.YtpkmnefbofhjbaaGreatCkU
import Derived.Test.YtpkmnefbofhjbaaGreatCkL2
import Derived.Lib.QuietBelow
namespace Go.Proofs.YtpkmnefbofhjbaaGreat.Ck
open Go Go.Lib Go.RowKit Go.Proofs.YtpkmnefbofhjbaaGreat Go.Maps

set_option maxRecDepth 100000 in
set_option maxHeartbeats 16000000 in
theorem checkDiscount_any (x : Dc) (S : Option Addr) (m c d : Nat) (A : Option Addr) (n k ca : Nat) (l : List Dc) (w : World) (hA : DcR w A l) (hn : l.length = n) (hk : k ≤ n) (hca : n ≤ ca) (hcm : ca ≤ maxLen) (hX : XA w d S x.us) (hm : x.us.length = m) (hc : m ≤ c) (hcx : c ≤ maxLen) (hnm : x.nm.size ≤ maxLen) (ht : x.tx.size ≤ maxLen) :
    Calls Tryz.prog 39 #[.agg #[.string x.nm, .int .i64 x.op, .int .i64 x.num, .string x.tx, .slice S m c, .int .i64 x.pt], .slice A k ca] w fun e w' => e = .returned (.int .i64 (dcV (nmOk x.nm) ((l.take k).any fun e => decide (e.nm = x.nm)) (sortX 16 x.wh).1 (sortX 16 x.wh).2 (inB x.pt 0 10000))) ∧ Below w.heap.size w w' := by
  obtain ⟨W1, hW1⟩ : ∃ W, w.alloc (.cells #[.string x.nm, .int .i64 x.op, .int .i64 x.num, .string x.tx, .slice S m c, .int .i64 x.pt] 69) = W := ⟨_, rfl⟩
  obtain ⟨g, hg⟩ : ∃ g, w.heap.size = g := ⟨_, rfl⟩
  have hbk : Blk W1 g 69 #[.string x.nm, .int .i64 x.op, .int .i64 x.num, .string x.tx, .slice S m c, .int .i64 x.pt] := hW1 ▸ hg ▸ Blk.new w _ _
  have hb1 : Below w.heap.size w W1 := hW1 ▸ below_one w _
  obtain ⟨vn, hvn⟩ : ∃ v, nmOk x.nm = v := ⟨_, rfl⟩
  obtain ⟨ve, hve⟩ : ∃ v, ((l.take k).any fun e => decide (e.nm = x.nm)) = v := ⟨_, rfl⟩
  obtain ⟨sv, hsv⟩ : ∃ v, sortX 16 x.wh = v := ⟨_, rfl⟩
  obtain ⟨s, er⟩ := sv
  obtain ⟨vp, hvp⟩ : ∃ v, inB x.pt 0 10000 = v := ⟨_, rfl⟩
  rw [hvn, hve, hsv, hvp]
  simp only
  have HN := Lib.hid (fun W => nameValid_is x.nm vn hvn W hnm)
  have HC := Lib.hid (fun (W : World) (h : Below W1.heap.size W1 W) => containsD_is A n k ca l x (.slice S m c) g W (hA.below (hb1.trans (h.mono hb1.size))) hn hk hca hcm (hbk.below h hbk.lt) ve hve)
  have HE := Lib.hid (fun (W : World) (h : Below W1.heap.size W1 W) => expr_is (show sortX 16 (.mk x.op x.num x.tx x.us) = (s, er) from hsv) S d m c W (hX.below (hb1.trans (h.mono hb1.size))) hm hc hcx ht)
  have HP := Lib.hid (within_is hvp)
  have HB1 := Lib.hid hb1; have HBK := Lib.hid hbk
  obtain ⟨a0, a1, a2, a3, a4, a5⟩ := six hbk
  obtain ⟨e0, he0⟩ : ∃ v, (er != 0) = v := ⟨_, rfl⟩
  obtain ⟨s3, hs3⟩ : ∃ v, (s != 3) = v := ⟨_, rfl⟩
  have HV : Hid (dcV vn ve s er vp = if vn = false then 8 else if ve = true then 10 else if e0 = true then er else if s3 = true then 7 else if vp = false then 6 else 0) := Lib.hid (by
    unfold dcV; rw [← he0, ← hs3]; simp only [bne_iff_ne])
  clear hA hn hX hm hbk hb1 hvn hve hsv hvp
  have hex : vn = false ∨ (vn = true ∧ ve = true) ∨ (vn = true ∧ ve = false ∧ e0 = true) ∨ (vn = true ∧ ve = false ∧ e0 = false ∧ s3 = true) ∨ (vn = true ∧ ve = false ∧ e0 = false ∧ s3 = false ∧ vp = false) ∨ (vn = true ∧ ve = false ∧ e0 = false ∧ s3 = false ∧ vp = true) := by
    clear HN HC HE HP he0 hs3 HV
    cases vn <;> cases ve <;> cases e0 <;> cases s3 <;> cases vp <;> simp
  rcases hex with rfl | ⟨rfl, rfl⟩ | ⟨rfl, rfl, rfl⟩ | ⟨rfl, rfl, rfl, rfl⟩ | ⟨rfl, rfl, rfl, rfl, rfl⟩ | ⟨rfl, rfl, rfl, rfl, rfl⟩
  all_goals
    go_enter Tryz.func39, Tryz.ntmps39
    go_wp2_with (first
      | (go_at_call 30; (with_reducible refine (HN.out _).mono ?_); rintro e w2 ⟨rfl, hb2⟩; have HB2 := Lib.hid hb2; clear hb2 a0 a1 a2 a3 a4 a5; obtain ⟨a0, a1, a2, a3, a4, a5⟩ := six (HBK.out.below HB2.out HBK.out.lt))
      | (go_at_call 79; (with_reducible refine (HC.out _ HB2.out).mono ?_); rintro e w3 ⟨rfl, hb3⟩; have HB3 := Lib.hid (HB2.out.trans (hb3.mono HB2.out.size)); clear hb3 a0 a1 a2 a3 a4 a5; obtain ⟨a0, a1, a2, a3, a4, a5⟩ := six (HBK.out.below HB3.out HBK.out.lt))
      | (go_at_call 81; (with_reducible refine (HE.out _ HB3.out).mono ?_); rintro e w4 ⟨rfl, hb4⟩; have HB4 := Lib.hid (HB3.out.trans (hb4.mono HB3.out.size)); clear hb4 a0 a1 a2 a3 a4 a5; obtain ⟨a0, a1, a2, a3, a4, a5⟩ := six (HBK.out.below HB4.out HBK.out.lt))
      | (go_at_call 31; (with_reducible refine (HP.out _).mono ?_); rintro e w5 ⟨rfl, rfl⟩))
    go_ret
    first
      | exact ⟨ret_i (by rw [HV.out] <;> rfl), HB1.out.trans (HB4.out.mono HB1.out.size)⟩
      | exact ⟨ret_i (by rw [HV.out] <;> rfl), HB1.out.trans (HB3.out.mono HB1.out.size)⟩
      | exact ⟨ret_i (by rw [HV.out] <;> rfl), HB1.out.trans (HB2.out.mono HB1.out.size)⟩
theorem checkDiscount_is {x : Dc} {l : List Dc} {k : Nat} {v : Int} (h : dcV (nmOk x.nm) ((l.take k).any fun e => decide (e.nm = x.nm)) (sortX 16 x.wh).1 (sortX 16 x.wh).2 (inB x.pt 0 10000) = v) (S : Option Addr) (m c d : Nat) (A : Option Addr) (n ca : Nat) (w : World) (hA : DcR w A l) (hn : l.length = n) (hk : k ≤ n) (hca : n ≤ ca) (hcm : ca ≤ maxLen) (hX : XA w d S x.us) (hm : x.us.length = m) (hc : m ≤ c) (hcx : c ≤ maxLen) (hnm : x.nm.size ≤ maxLen) (ht : x.tx.size ≤ maxLen) :
    Calls Tryz.prog 39 #[.agg #[.string x.nm, .int .i64 x.op, .int .i64 x.num, .string x.tx, .slice S m c, .int .i64 x.pt], .slice A k ca] w fun e w' => e = .returned (.int .i64 v) ∧ Below w.heap.size w w' := by
  subst h; exact checkDiscount_any x S m c d A n k ca l w hA hn hk hca hcm hX hm hc hcx hnm ht
set_option maxRecDepth 100000 in
set_option maxHeartbeats 8000000 in
theorem tar2_any (k : Nat) (x : Dc) (S : Option Addr) (m c d p : Nat) (t : Tf) (w : World) (v : Int) (hv : dcV (nmOk x.nm) ((t.dl.take k).any fun e => decide (e.nm = x.nm)) (sortX 16 x.wh).1 (sortX 16 x.wh).2 (inB x.pt 0 10000) = v) (hN : TfN t) (hT : TfR w t) (hk : k ≤ t.dn) (hX : XA w d S x.us) (hm : x.us.length = m) (hc : m ≤ c) (hcx : c ≤ maxLen) (hnm : x.nm.size ≤ maxLen) (ht : x.tx.size ≤ maxLen) (hp : Blk w p 32 t.cells) :
    Calls Tryz.prog 38 #[.int .i64 k, .agg #[.string x.nm, .int .i64 x.op, .int .i64 x.num, .string x.tx, .slice S m c, .int .i64 x.pt], .pointer (some ⟨p, 0, none⟩)] w fun e w' => e = .returned (.int .i64 v) ∧ Below w.heap.size w w' := by
  have hb1 := below_one w (.cells #[.string x.nm, .int .i64 x.op, .int .i64 x.num, .string x.tx, .slice S m c, .int .i64 x.pt] 69)
  obtain ⟨W1, hW1⟩ : ∃ W, w.alloc (.cells #[.string x.nm, .int .i64 x.op, .int .i64 x.num, .string x.tx, .slice S m c, .int .i64 x.pt] 69) = W := ⟨_, rfl⟩
  obtain ⟨g, hg⟩ : ∃ g, w.heap.size = g := ⟨_, rfl⟩
  have hbk : Blk W1 g 69 #[.string x.nm, .int .i64 x.op, .int .i64 x.num, .string x.tx, .slice S m c, .int .i64 x.pt] := hW1 ▸ hg ▸ Blk.new w _ _
  rw [hW1] at hb1
  have hp1 := hp.below hb1 hp.lt
  have HC := Lib.hid (fun (d' : Nat) (os : Array Obj) => checkDiscount_is hv S m c d t.DA t.dn t.dc (Go.Sort.grow (redrawn W1 d') os) ((hT.below hb1).d.below (below_regrown _ _ _)) hN.dl hk hN.dc hN.dm ((hX.below hb1).below (below_regrown _ _ _)) hm hc hcx hnm ht)
  have HB1 := Lib.hid hb1
  have hkc : k ≤ t.dc := Nat.le_trans hk hN.dc
  have hm5 := hN.dm
  unfold maxLen at hm5
  obtain ⟨a0, a1, a2, a3, a4, a5⟩ := six hbk
  obtain ⟨tnm, tfr, tsp, ZA, zln, zcp, zl, BA, bln, bcp, bl, RA, rn, rc, rl, DA, dn, dc, dl⟩ := t
  simp only [Tf.cells] at hp1 HC hk hkc hm5
  obtain ⟨b0, b1, b2, b3, b4, b5, b6⟩ := seven hp1
  clear hN hT hX hp hv hm hbk hp1 hb1
  go_enter Tryz.func38, Tryz.ntmps38
  go_wp2_with fail
  have g0 := fun d os => cell_regrown a0 d os
  have g1 := fun d os => cell_regrown a1 d os
  have g2 := fun d os => cell_regrown a2 d os
  have g3 := fun d os => cell_regrown a3 d os
  have g4 := fun d os => cell_regrown a4 d os
  have g5 := fun d os => cell_regrown a5 d os
  have g6 := fun d os => cell_regrown b6 d os
  refine wp_region_quiet_below (by kernel_rfl) (by kernel_rfl) ?_
  iterate 7 (go_big_quiet_step ((with_reducible exact Calls.regrown_of (HC.out _ _))))
  refine wpQuiet_nil ?_
  intro Wq hw'
  have HBQ : Hid (Below W1.heap.size W1 Wq) := Lib.hid (by obtain ⟨⟨dq, osq⟩, hw''⟩ := hw'; rw [hw'']; exact below_regrown _ _ _)
  clear hw'
  go_wp2_with fail
  go_ret
  exact ⟨rfl, HB1.out.trans (HBQ.out.mono HB1.out.size)⟩
end Go.Proofs.YtpkmnefbofhjbaaGreat.Ck
