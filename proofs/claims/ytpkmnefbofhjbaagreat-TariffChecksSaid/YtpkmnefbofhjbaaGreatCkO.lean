/- Walk of the reference: Tariff. -/
import Derived.Test.YtpkmnefbofhjbaaGreatCkK
namespace Go.Proofs.YtpkmnefbofhjbaaGreat.Ck
open Go Go.Lib Go.RowKit Go.Proofs.YtpkmnefbofhjbaaGreat Go.Maps

theorem rzck_is {t : Tf} {v : Int} (h : Zn.ckZ (Zn.zos t.zl) = v) (w : World) (hN : TfN t) (hF : Zn.Fit t.zl) (hT : TfR w t) : Calls Tryz.prog 44 #[.slice t.ZA t.zn t.zc] w fun e w' => e = .returned (.int .i64 v) ∧ Below w.heap.size w w' := by
  subst h; exact Zn.refCheck_any t.ZA t.zn t.zc t.zl w hT.z hN.zl hN.zc hN.zm hF
theorem rbck_is {t : Tf} {v : Int} (h : ckB t.bl = v) (w : World) (hN : TfN t) (hT : TfR w t) : Calls Tryz.prog 45 #[.slice t.BA t.bn t.bc] w fun e w' => e = .returned (.int .i64 v) ∧ Below w.heap.size w w' := by
  subst h; exact refCheck_any t.BA t.bn t.bc t.bl w hT.b hN.bl hN.bc hN.bm
theorem refRates_is {t : Tf} {v : Int} (h : ratesE t = v) (w : World) (hN : TfN t) (hT : TfR w t) : Calls Tryz.prog 46 #[.agg t.cells] w fun e w' => e = .returned (.int .i64 v) ∧ Below w.heap.size w w' := by
  subst h; exact refRates_any t w hN hT
theorem refDisc_is {t : Tf} {v : Int} (h : discE t = v) (w : World) (hN : TfN t) (hT : TfR w t) : Calls Tryz.prog 47 #[.agg t.cells] w fun e w' => e = .returned (.int .i64 v) ∧ Below w.heap.size w w' := by
  subst h; exact refDisc_any t w hN hT
theorem ref_ways (vn f1 f2 ze be re : Bool) : vn = false ∨ (vn = true ∧ f1 = true) ∨ (vn = true ∧ f1 = false ∧ f2 = true) ∨ (vn = true ∧ f1 = false ∧ f2 = false ∧ ze = false) ∨ (vn = true ∧ f1 = false ∧ f2 = false ∧ ze = true ∧ be = false) ∨ (vn = true ∧ f1 = false ∧ f2 = false ∧ ze = true ∧ be = true ∧ re = false) ∨ (vn = true ∧ f1 = false ∧ f2 = false ∧ ze = true ∧ be = true ∧ re = true) := by
  cases vn <;> cases f1 <;> cases f2 <;> cases ze <;> cases be <;> cases re <;> simp
set_option maxRecDepth 100000 in
set_option maxHeartbeats 16000000 in
theorem refTariff_any (t : Tf) (w : World) (hN : TfN t) (hF : Zn.Fit t.zl) (hT : TfR w t) :
    Calls Tryz.prog 18 #[.agg t.cells] w fun e w' => e = .returned (.int .i64 (tarE t)) ∧ Below w.heap.size w w' := by
  obtain ⟨W1, hW1⟩ : ∃ W, w.alloc (.cells t.cells 32) = W := ⟨_, rfl⟩
  obtain ⟨g, hg⟩ : ∃ g, w.heap.size = g := ⟨_, rfl⟩
  have hbk : Blk W1 g 32 t.cells := hW1 ▸ hg ▸ Blk.new w _ _
  have hb1 : Below w.heap.size w W1 := hW1 ▸ below_one w _
  obtain ⟨vn, hvn⟩ : ∃ v, nmOk t.nm = v := ⟨_, rfl⟩
  obtain ⟨f1, hf1⟩ : ∃ v, decide (t.fr < 0) = v := ⟨_, rfl⟩
  obtain ⟨f2, hf2⟩ : ∃ v, decide (12622780800 ≤ t.fr) = v := ⟨_, rfl⟩
  obtain ⟨zv, hzv⟩ : ∃ v, Zn.ckZ (Zn.zos t.zl) = v := ⟨_, rfl⟩
  obtain ⟨bv, hbv⟩ : ∃ v, ckB t.bl = v := ⟨_, rfl⟩
  obtain ⟨rv, hrv⟩ : ∃ v, ratesE t = v := ⟨_, rfl⟩
  obtain ⟨dv, hdv⟩ : ∃ v, discE t = v := ⟨_, rfl⟩
  obtain ⟨ze, hze⟩ : ∃ v, (zv == 0) = v := ⟨_, rfl⟩
  obtain ⟨be, hbe⟩ : ∃ v, (bv == 0) = v := ⟨_, rfl⟩
  obtain ⟨re, hre⟩ : ∃ v, (rv == 0) = v := ⟨_, rfl⟩
  have HV : Hid (tarE t = if vn = false then 8 else if (!f1 && !f2) = false then 15 else if ze = false then zv else if be = false then bv else if re = false then rv else dv) := Lib.hid (by
    unfold tarE tarV; rw [hvn, inB_not hf1 (show decide (12622780799 < t.fr) = f2 by rw [← hf2]; congr 1), hzv, hbv, hrv, hdv, ← hze, ← hbe, ← hre]; simp only [beq_eq_false_iff_ne, ne_eq])
  have HN := Lib.hid (fun W => refName_isB t.nm vn hvn W hN.nm)
  have HZ := Lib.hid (fun (W : World) (h : Below W1.heap.size W1 W) => rzck_is hzv W hN hF (hT.below (hb1.trans (h.mono hb1.size))))
  have HBB := Lib.hid (fun (W : World) (h : Below W1.heap.size W1 W) => rbck_is hbv W hN (hT.below (hb1.trans (h.mono hb1.size))))
  have HR := Lib.hid (fun (W : World) (h : Below W1.heap.size W1 W) => refRates_is hrv W hN (hT.below (hb1.trans (h.mono hb1.size))))
  have HD := Lib.hid (fun (W : World) (h : Below W1.heap.size W1 W) => refDisc_is hdv W hN (hT.below (hb1.trans (h.mono hb1.size))))
  have HB1 := Lib.hid hb1; have HBK := Lib.hid hbk
  obtain ⟨tnm, tfr, tsp, ZA, zln, zcp, zl, BA, bln, bcp, bl, RA, rn, rc, rl, DA, dn, dc, dl⟩ := t
  simp only [Tf.cells] at HBK HN HZ HBB HR HD hW1 hf1 hf2 ⊢
  obtain ⟨a0, a1, a2, a3, a4, a5, a6⟩ := seven HBK.out
  have hw := ref_ways vn f1 f2 ze be re
  clear hN hF hT hbk hb1 hvn hzv hbv hrv hdv
  rcases hw with rfl | ⟨rfl, rfl⟩ | ⟨rfl, rfl, rfl⟩ | ⟨rfl, rfl, rfl, rfl⟩ | ⟨rfl, rfl, rfl, rfl, rfl⟩ | ⟨rfl, rfl, rfl, rfl, rfl, rfl⟩ | ⟨rfl, rfl, rfl, rfl, rfl, rfl⟩
  all_goals
    go_enter Tryz.func18, Tryz.ntmps18
    go_wp2_with (first
      | (go_at_call 43; (with_reducible refine (HN.out _).mono ?_); rintro e w2 ⟨rfl, rfl⟩)
      | (go_at_call 44; (with_reducible refine (HZ.out _ (Below.refl _ _)).mono ?_); rintro e w4 ⟨rfl, hb4⟩; have HB4 := Lib.hid hb4; clear hb4 a0 a1 a2 a3 a4 a5 a6; obtain ⟨a0, a1, a2, a3, a4, a5, a6⟩ := seven (HBK.out.below HB4.out HBK.out.lt))
      | (go_at_call 45; (with_reducible refine (HBB.out _ HB4.out).mono ?_); rintro e w5 ⟨rfl, hb5⟩; have HB5 := Lib.hid (HB4.out.trans (hb5.mono HB4.out.size)); clear hb5 a0 a1 a2 a3 a4 a5 a6; obtain ⟨a0, a1, a2, a3, a4, a5, a6⟩ := seven (HBK.out.below HB5.out HBK.out.lt))
      | (go_at_call 46; (with_reducible refine (HR.out _ HB5.out).mono ?_); rintro e w6 ⟨rfl, hb6⟩; have HB6 := Lib.hid (HB5.out.trans (hb6.mono HB5.out.size)); clear hb6 a0 a1 a2 a3 a4 a5 a6; obtain ⟨a0, a1, a2, a3, a4, a5, a6⟩ := seven (HBK.out.below HB6.out HBK.out.lt))
      | (go_at_call 47; (with_reducible refine (HD.out _ HB6.out).mono ?_); rintro e w7 ⟨rfl, hb7⟩; have HB7 := Lib.hid (HB6.out.trans (hb7.mono HB6.out.size)); clear hb7 a0 a1 a2 a3 a4 a5 a6))
    go_ret
    first
      | exact ⟨ret_i (by rw [HV.out] <;> rfl), HB1.out.trans (HB7.out.mono HB1.out.size)⟩
      | exact ⟨ret_i (by rw [HV.out] <;> rfl), HB1.out.trans (HB6.out.mono HB1.out.size)⟩
      | exact ⟨ret_i (by rw [HV.out] <;> rfl), HB1.out.trans (HB5.out.mono HB1.out.size)⟩
      | exact ⟨ret_i (by rw [HV.out] <;> rfl), HB1.out.trans (HB4.out.mono HB1.out.size)⟩
      | exact ⟨ret_i (by rw [HV.out] <;> rfl), HB1.out⟩
end Go.Proofs.YtpkmnefbofhjbaaGreat.Ck
