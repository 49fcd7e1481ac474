/- Walks: the discounts one after the other; Tariff. -/
import Derived.Test.YtpkmnefbofhjbaaGreatCkG
namespace Go.Proofs.YtpkmnefbofhjbaaGreat.Ck
open Go Go.Lib Go.RowKit Go.Proofs.YtpkmnefbofhjbaaGreat Go.Maps

set_option maxRecDepth 100000 in
set_option maxHeartbeats 8000000 in
theorem examineD_any (t : Tf) (p : Nat) (w : World) (hN : TfN t) (hT : TfR w t) (hp : Blk w p 32 t.cells) :
    Calls Tryz.prog 37 #[.func (.func 38) #[] #[.pointer (some ⟨p, 0, none⟩)], .slice t.DA t.dn t.dc] w fun e w' => e = .returned (.int .i64 (discE t)) ∧ Below w.heap.size w w' := by
  have hm := hN.dm
  have hc := hN.dc
  unfold maxLen at hm
  obtain ⟨n, hn⟩ : ∃ n, t.dn = n := ⟨_, rfl⟩
  have HRE : Hid (discE t = if 64 < n then 5 else fstN (dcE t.dl) 0 n) := Lib.hid (by unfold discE; rw [hn])
  have HN := Lib.hid hN; have HT := Lib.hid hT; have HP := Lib.hid hp; have HRL := Lib.hid (show t.dl.length = n by rw [hN.dl, hn])
  have HDN := Lib.hid hn
  rw [hn] at hc ⊢
  by_cases h64 : 64 < n
  · have d1 : decide ((64 : Int) < (n : Int)) = true := decide_eq_true (by omega)
    have HR : Hid (discE t = 5) := Lib.hid (by rw [HRE.out, if_pos h64])
    clear hN hT hp h64 hn
    go_enter Tryz.func37, Tryz.ntmps37
    go_wp2_with fail
    go_ret
    exact ⟨ret_i HR.out.symm, Below.refl _ _⟩
  · have d1 : decide ((64 : Int) < (n : Int)) = false := decide_eq_false (by omega)
    have HV : Hid (discE t = fstN (dcE t.dl) 0 n) := Lib.hid (by rw [HRE.out, if_neg h64])
    clear hN hT hp h64 hn
    go_enter Tryz.func37, Tryz.ntmps37
    go_wp2_with fail
    clear d1
    go_loopw [13] (fun iv wr => ∃ (k : Nat), iv = .int .i64 k ∧ k ≤ n ∧ Below w.heap.size w wr ∧ Hid (fstN (dcE t.dl) k (n - k) = discE t)) (fun iv _ => n - (RowKit.intOf iv).toNat)
    case atStart => exact ⟨0, rfl, by omega, Below.refl _ _, Lib.hid HV.out.symm⟩
    case round =>
      obtain ⟨k, rfl, hk, hb, HF⟩ := hrel
      have hs := hb.size
      by_cases hlt : k < n
      · have hlt' : (k : Int) < (n : Int) := by omega
        obtain ⟨bk, off, S, c, d, hAe, hbl, g0, g1, g2, g3, g4, g5, u1, u2, u3, u4, u5⟩ := HT.out.d k (by rw [HRL.out]; exact hlt)
        rw [hAe]
        have e0 := (hb.cell (p := ⟨bk, off + k * 6, none⟩) hbl).trans g0
        have e1 := (hb.cell (p := ⟨bk, off + k * 6 + 1, none⟩) hbl).trans g1
        have e2 := (hb.cell (p := ⟨bk, off + k * 6 + 2, none⟩) hbl).trans g2
        have e3 := (hb.cell (p := ⟨bk, off + k * 6 + 3, none⟩) hbl).trans g3
        have e4 := (hb.cell (p := ⟨bk, off + k * 6 + 4, none⟩) hbl).trans g4
        have e5 := (hb.cell (p := ⟨bk, off + k * 6 + 5, none⟩) hbl).trans g5
        obtain ⟨x, hr⟩ : ∃ r, t.dl.getD k dc0 = r := ⟨_, rfl⟩
        rw [hr] at e0 e1 e2 e3 e4 e5 u1 u3 u4 u5
        obtain ⟨v, hv⟩ : ∃ v, dcE t.dl k = v := ⟨_, rfl⟩
        have hf := HF.out
        rw [fstN_next hlt, hv] at hf
        have HF2 := Lib.hid hf
        obtain ⟨m, hm2⟩ : ∃ m, x.us.length = m := ⟨_, rfl⟩
        rw [hm2] at e4 u1
        have hbw := hb.alloc hs (.cells #[.string x.nm, .int .i64 x.op, .int .i64 x.num, .string x.tx, .slice S m c, .int .i64 x.pt] 69)
        have HC := Lib.hid (tar2_any k x S m c d p t (wr.alloc (.cells #[.string x.nm, .int .i64 x.op, .int .i64 x.num, .string x.tx, .slice S m c, .int .i64 x.pt] 69)) v (by rw [← hv]; unfold dcE; rw [hr]) HN.out (HT.out.below hbw) (by rw [HDN.out]; omega) (u3.below hbw) hm2 u1 u2 u4 u5 (HP.out.below hbw HP.out.lt))
        obtain ⟨c0, c1, c2, c3, c4, c5⟩ := six (Blk.new wr 69 #[.string x.nm, .int .i64 x.op, .int .i64 x.num, .string x.tx, .slice S m c, .int .i64 x.pt])
        have HBW := Lib.hid hbw
        clear g0 g1 g2 g3 g4 g5 u1 u2 u3 u4 u5 hr hv hf hm2 hbw hbl HF HV
        by_cases h0 : v = 0
        · subst h0
          rw [if_pos rfl] at HF2
          go_wp2_with (go_at_call 38; (with_reducible refine HC.out.mono ?_); rintro e w1 ⟨rfl, hb1⟩; have HB1 := Lib.hid (HBW.out.trans (hb1.mono HBW.out.size)); clear hb1 c0 c1 c2 c3 c4 c5 e0 e1 e2 e3 e4 e5)
          go_roundw
          case rel => exact ⟨k + 1, by go_num, by omega, HB1.out, HF2⟩
          case measure => simp [RowKit.intOf]; omega
        · have d0 : (v == 0) = false := by rw [beq_eq_false_iff_ne]; exact h0
          rw [if_neg h0] at HF2
          clear h0
          go_wp2_with (go_at_call 38; (with_reducible refine HC.out.mono ?_); rintro e w1 ⟨rfl, hb1⟩; have HB1 := Lib.hid (HBW.out.trans (hb1.mono HBW.out.size)); clear hb1 c0 c1 c2 c3 c4 c5 e0 e1 e2 e3 e4 e5)
          go_ret
          exact ⟨ret_i HF2.out, HB1.out⟩
      · obtain rfl : k = n := by omega
        have HR : Hid (discE t = 0) := Lib.hid (by rw [← HF.out, fstN_end])
        have dk : decide ((k : Int) < (k : Int)) = false := decide_eq_false (by omega)
        clear HF HV
        go_wp2_with fail
        go_ret
        exact ⟨ret_i HR.out.symm, hb⟩
theorem zck_is {t : Tf} {v : Int} (h : Zn.ckZ (Zn.zos t.zl) = v) (w : World) (hN : TfN t) (hF : Zn.Fit t.zl) (hT : TfR w t) : Calls Tryz.prog 32 #[.slice t.ZA t.zn t.zc] w fun e w' => e = .returned (.int .i64 v) ∧ Below w.heap.size w w' := by
  subst h; exact Zn.check_any t.ZA t.zn t.zc t.zl w hT.z hN.zl hN.zc hN.zm hF
theorem bck_is {t : Tf} {v : Int} (h : ckB t.bl = v) (w : World) (hN : TfN t) (hT : TfR w t) : Calls Tryz.prog 33 #[.slice t.BA t.bn t.bc] w fun e w' => e = .returned (.int .i64 v) ∧ Below w.heap.size w w' := by
  subst h; exact check_any t.BA t.bn t.bc t.bl w hT.b hN.bl hN.bc hN.bm
theorem exR_is {t : Tf} {v : Int} (h : ratesE t = v) (p : Nat) (w : World) (hN : TfN t) (hT : TfR w t) (hp : Blk w p 32 t.cells) :
    Calls Tryz.prog 34 #[.func (.func 35) #[] #[.pointer (some ⟨p, 0, none⟩)], .slice t.RA t.rn t.rc] w fun e w' => e = .returned (.int .i64 v) ∧ Below w.heap.size w w' := by
  subst h; exact examineR_any t p w hN hT hp
theorem exD_is {t : Tf} {v : Int} (h : discE t = v) (p : Nat) (w : World) (hN : TfN t) (hT : TfR w t) (hp : Blk w p 32 t.cells) :
    Calls Tryz.prog 37 #[.func (.func 38) #[] #[.pointer (some ⟨p, 0, none⟩)], .slice t.DA t.dn t.dc] w fun e w' => e = .returned (.int .i64 v) ∧ Below w.heap.size w w' := by
  subst h; exact examineD_any t p w hN hT hp
/-- The ways of a tariff's check. -/
theorem tar_ways (vn vf ze be re : Bool) : vn = false ∨ (vn = true ∧ vf = false) ∨ (vn = true ∧ vf = true ∧ ze = true) ∨ (vn = true ∧ vf = true ∧ ze = false ∧ be = true) ∨ (vn = true ∧ vf = true ∧ ze = false ∧ be = false ∧ re = true) ∨ (vn = true ∧ vf = true ∧ ze = false ∧ be = false ∧ re = false) := by
  cases vn <;> cases vf <;> cases ze <;> cases be <;> cases re <;> simp
set_option maxRecDepth 100000 in
set_option maxHeartbeats 16000000 in
theorem tariff_any (t : Tf) (w : World) (hN : TfN t) (hF : Zn.Fit t.zl) (hT : TfR w t) :
    Calls Tryz.prog 16 #[.agg t.cells] w fun e w' => e = .returned (.int .i64 (tarE t)) ∧ Below w.heap.size w w' := by
  obtain ⟨W1, hW1⟩ : ∃ W, w.alloc (.cells t.cells 32) = W := ⟨_, rfl⟩
  obtain ⟨g, hg⟩ : ∃ g, w.heap.size = g := ⟨_, rfl⟩
  have hbk : Blk W1 g 32 t.cells := hW1 ▸ hg ▸ Blk.new w _ _
  have hb1 : Below w.heap.size w W1 := hW1 ▸ below_one w _
  obtain ⟨vn, hvn⟩ : ∃ v, nmOk t.nm = v := ⟨_, rfl⟩
  obtain ⟨vf, hvf⟩ : ∃ v, inB t.fr 0 12622780799 = v := ⟨_, rfl⟩
  obtain ⟨zv, hzv⟩ : ∃ v, Zn.ckZ (Zn.zos t.zl) = v := ⟨_, rfl⟩
  obtain ⟨bv, hbv⟩ : ∃ v, ckB t.bl = v := ⟨_, rfl⟩
  obtain ⟨rv, hrv⟩ : ∃ v, ratesE t = v := ⟨_, rfl⟩
  obtain ⟨dv, hdv⟩ : ∃ v, discE t = v := ⟨_, rfl⟩
  obtain ⟨ze, hze⟩ : ∃ v, (zv != 0) = v := ⟨_, rfl⟩
  obtain ⟨be, hbe⟩ : ∃ v, (bv != 0) = v := ⟨_, rfl⟩
  obtain ⟨re, hre⟩ : ∃ v, (rv != 0) = v := ⟨_, rfl⟩
  have HV : Hid (tarE t = if vn = false then 8 else if vf = false then 15 else if ze = true then zv else if be = true then bv else if re = true then rv else dv) := Lib.hid (by
    unfold tarE tarV; rw [hvn, hvf, hzv, hbv, hrv, hdv, ← hze, ← hbe, ← hre]; simp only [bne_iff_ne])
  have HN := Lib.hid (fun W => nameValid_is t.nm vn hvn W hN.nm)
  have HI := Lib.hid (within_is hvf)
  have HZ := Lib.hid (fun (W : World) (h : Below W1.heap.size W1 W) => zck_is hzv W hN hF (hT.below (hb1.trans (h.mono hb1.size))))
  have HBB := Lib.hid (fun (W : World) (h : Below W1.heap.size W1 W) => bck_is hbv W hN (hT.below (hb1.trans (h.mono hb1.size))))
  have HR := Lib.hid (fun (W : World) (h : Below W1.heap.size W1 W) => exR_is hrv g W hN (hT.below (hb1.trans (h.mono hb1.size))) (hbk.below h hbk.lt))
  have HD := Lib.hid (fun (W : World) (h : Below W1.heap.size W1 W) => exD_is hdv g W hN (hT.below (hb1.trans (h.mono hb1.size))) (hbk.below h hbk.lt))
  have HB1 := Lib.hid hb1; have HBK := Lib.hid hbk
  obtain ⟨tnm, tfr, tsp, ZA, zln, zcp, zl, BA, bln, bcp, bl, RA, rn, rc, rl, DA, dn, dc, dl⟩ := t
  simp only [Tf.cells] at HBK HN HI HZ HBB HR HD hW1 ⊢
  obtain ⟨a0, a1, a2, a3, a4, a5, a6⟩ := seven HBK.out
  have hw := tar_ways vn vf ze be re
  clear hN hF hT hbk hb1 hvn hvf hzv hbv hrv hdv
  rcases hw with rfl | ⟨rfl, rfl⟩ | ⟨rfl, rfl, rfl⟩ | ⟨rfl, rfl, rfl, rfl⟩ | ⟨rfl, rfl, rfl, rfl, rfl⟩ | ⟨rfl, rfl, rfl, rfl, rfl⟩
  all_goals
    go_enter Tryz.func16, Tryz.ntmps16
    go_wp2_with (first
      | (go_at_call 30; (with_reducible refine (HN.out _).mono ?_); rintro e w2 ⟨rfl, hb2⟩; have HB2 := Lib.hid hb2; clear hb2 a0 a1 a2 a3 a4 a5 a6; obtain ⟨a0, a1, a2, a3, a4, a5, a6⟩ := seven (HBK.out.below HB2.out HBK.out.lt))
      | (go_at_call 31; (with_reducible refine (HI.out _).mono ?_); rintro e w3 ⟨rfl, rfl⟩)
      | (go_at_call 32; (with_reducible refine (HZ.out _ HB2.out).mono ?_); rintro e w4 ⟨rfl, hb4⟩; have HB4 := Lib.hid (HB2.out.trans (hb4.mono HB2.out.size)); clear hb4 a0 a1 a2 a3 a4 a5 a6; obtain ⟨a0, a1, a2, a3, a4, a5, a6⟩ := seven (HBK.out.below HB4.out HBK.out.lt))
      | (go_at_call 33; (with_reducible refine (HBB.out _ HB4.out).mono ?_); rintro e w5 ⟨rfl, hb5⟩; have HB5 := Lib.hid (HB4.out.trans (hb5.mono HB4.out.size)); clear hb5 a0 a1 a2 a3 a4 a5 a6; obtain ⟨a0, a1, a2, a3, a4, a5, a6⟩ := seven (HBK.out.below HB5.out HBK.out.lt))
      | (go_at_call 34; (with_reducible refine (HR.out _ HB5.out).mono ?_); rintro e w6 ⟨rfl, hb6⟩; have HB6 := Lib.hid (HB5.out.trans (hb6.mono HB5.out.size)); clear hb6 a0 a1 a2 a3 a4 a5 a6; obtain ⟨a0, a1, a2, a3, a4, a5, a6⟩ := seven (HBK.out.below HB6.out HBK.out.lt))
      | (go_at_call 37; (with_reducible refine (HD.out _ HB6.out).mono ?_); rintro e w7 ⟨rfl, hb7⟩; have HB7 := Lib.hid (HB6.out.trans (hb7.mono HB6.out.size)); clear hb7 a0 a1 a2 a3 a4 a5 a6))
    go_ret
    first
      | exact ⟨ret_i (by rw [HV.out] <;> rfl), HB1.out.trans (HB7.out.mono HB1.out.size)⟩
      | exact ⟨ret_i (by rw [HV.out] <;> rfl), HB1.out.trans (HB6.out.mono HB1.out.size)⟩
      | exact ⟨ret_i (by rw [HV.out] <;> rfl), HB1.out.trans (HB5.out.mono HB1.out.size)⟩
      | exact ⟨ret_i (by rw [HV.out] <;> rfl), HB1.out.trans (HB4.out.mono HB1.out.size)⟩
      | exact ⟨ret_i (by rw [HV.out] <;> rfl), HB1.out.trans (HB2.out.mono HB1.out.size)⟩
end Go.Proofs.YtpkmnefbofhjbaaGreat.Ck
