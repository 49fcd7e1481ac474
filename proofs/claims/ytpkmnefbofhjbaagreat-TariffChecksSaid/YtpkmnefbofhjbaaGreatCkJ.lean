/- Walks of the reference: the rates and the discounts of a tariff; Tariff. -/
import Derived.Test.YtpkmnefbofhjbaaGreatCkI
namespace Go.Proofs.YtpkmnefbofhjbaaGreat.Ck
open Go Go.Lib Go.RowKit Go.Proofs.YtpkmnefbofhjbaaGreat Go.Maps

theorem refStepsC {l : List Sp} {v : Int} (h : stepsE l = v) (A : Option Addr) (n c : Nat) (w : World) (hA : SpR w A l) (hn : l.length = n) (hc : n ≤ c) (hm : c ≤ maxLen) :
    Calls Tryz.prog 91 #[.slice A n c] w fun e w' => e = .returned (.int .i64 v) ∧ Below w.heap.size w w' := by
  subst h; exact refSteps_any A n c l w hA hn hc hm
theorem rate_ways (k1 k2 vz vb s1 s2 : Bool) : k1 = true ∨ (k1 = false ∧ k2 = true) ∨ (k1 = false ∧ k2 = false ∧ vz = false) ∨ (k1 = false ∧ k2 = false ∧ vz = true ∧ vb = false) ∨ (k1 = false ∧ k2 = false ∧ vz = true ∧ vb = true ∧ s1 = true) ∨ (k1 = false ∧ k2 = false ∧ vz = true ∧ vb = true ∧ s1 = false ∧ s2 = true) ∨ (k1 = false ∧ k2 = false ∧ vz = true ∧ vb = true ∧ s1 = false ∧ s2 = false) := by
  cases k1 <;> cases k2 <;> cases vz <;> cases vb <;> cases s1 <;> cases s2 <;> simp
theorem inB_not {n a b : Int} {x y : Bool} (h1 : decide (n < a) = x) (h2 : decide (b < n) = y) : inB n a b = (!x && !y) := by
  unfold inB
  rw [← h1, ← h2, Bool.eq_iff_iff]
  simp only [Bool.and_eq_true, decide_eq_true_eq, Bool.not_eq_true', decide_eq_false_iff_not]
  omega
set_option maxRecDepth 100000 in
set_option maxHeartbeats 16000000 in
theorem refRates_any (t : Tf) (w : World) (hN : TfN t) (hT : TfR w t) :
    Calls Tryz.prog 46 #[.agg t.cells] w fun e w' => e = .returned (.int .i64 (ratesE t)) ∧ Below w.heap.size w w' := by
  obtain ⟨W1, hW1⟩ : ∃ W, w.alloc (.cells t.cells 32) = W := ⟨_, rfl⟩
  obtain ⟨g, hg⟩ : ∃ g, w.heap.size = g := ⟨_, rfl⟩
  have hbk : Blk W1 g 32 t.cells := hW1 ▸ hg ▸ Blk.new w _ _
  have hb1 : Below w.heap.size w W1 := hW1 ▸ below_one w _
  have HB1 := Lib.hid hb1; have HBK := Lib.hid hbk
  have hm := hN.rm; have hc := hN.rc
  unfold maxLen at hm
  have HRE : Hid (ratesE t = if 64 < t.rn then 5 else fstN (fun k => rtE t.zl t.bl (t.rl.getD k rt0)) 0 t.rn) := Lib.hid rfl
  have HT := Lib.hid (hT.below hb1); have HRL := Lib.hid hN.rl
  have HZ := Lib.hid (fun (W : World) (x : ByteArray) (v : Bool) (h : Below W1.heap.size W1 W) (hv : zkn t.zl x = v) => refZone_any t x v hv W hN ((hT.below hb1).below h))
  have HBD := Lib.hid (fun (W : World) (x : ByteArray) (v : Bool) (h : Below W1.heap.size W1 W) (hv : bkn t.bl x = v) => refBand_any t x v hv W hN ((hT.below hb1).below h))
  obtain ⟨zl, hzl⟩ : ∃ l, t.zl = l := ⟨_, rfl⟩
  obtain ⟨bl, hbl⟩ : ∃ l, t.bl = l := ⟨_, rfl⟩
  obtain ⟨rl, hrl⟩ : ∃ l, t.rl = l := ⟨_, rfl⟩
  have HR0 := Lib.hid HT.out.r
  obtain ⟨RE, hRE⟩ : ∃ x, ratesE t = x := ⟨_, rfl⟩
  rw [hzl, hbl, hrl, hRE] at HRE
  rw [hrl] at HRL HR0
  rw [hzl] at HZ
  rw [hbl] at HBD
  rw [hRE]
  clear hzl hbl hrl hRE
  obtain ⟨tnm, tfr, tsp, ZA, zln, zcp, zl0, BA, bln, bcp, bl0, RA, rn, rc, rl0, DA, dn, dc, dl⟩ := t
  simp only [Tf.cells] at HBK hW1 hm hc HRE HRL HZ HBD HR0 ⊢
  obtain ⟨a0, a1, a2, a3, a4, a5, a6⟩ := seven HBK.out
  clear hN hT HT hbk hb1
  by_cases h64 : 64 < rn
  · have d1 : decide ((64 : Int) < (rn : Int)) = true := decide_eq_true (by omega)
    have HR : Hid (RE = 5) := Lib.hid (by rw [HRE.out, if_pos h64])
    clear h64
    go_enter Tryz.func46, Tryz.ntmps46
    go_wp2_with fail
    go_ret
    exact ⟨ret_i HR.out.symm, HB1.out⟩
  have d1 : decide ((64 : Int) < (rn : Int)) = false := decide_eq_false (by omega)
  have HV : Hid (RE = fstN (fun k => rtE zl bl (rl.getD k rt0)) 0 rn) := Lib.hid (by rw [HRE.out, if_neg h64])
  clear h64
  go_enter Tryz.func46, Tryz.ntmps46
  go_wp2_with fail
  clear d1 a0 a1 a2 a3 a4 a5 a6
  go_loopw [3] (fun iv wr => ∃ (k : Nat), iv = .int .i64 k ∧ k ≤ rn ∧ Below W1.heap.size W1 wr ∧ Hid (fstN (fun k => rtE zl bl (rl.getD k rt0)) k (rn - k) = RE)) (fun iv _ => rn - (RowKit.intOf iv).toNat)
  case atStart => exact ⟨0, rfl, by omega, Below.refl _ _, Lib.hid HV.out.symm⟩
  case round =>
    obtain ⟨k, rfl, hk, hb, HF⟩ := hrel
    have hs := hb.size
    by_cases hlt : k < rn
    · have hlt' : (k : Int) < (rn : Int) := by omega
      obtain ⟨bk, off, S, c, rfl, hbl, g0, g1, g2, g3, g4, u1, u2, u3⟩ := HR0.out k (by rw [HRL.out]; exact hlt)
      have e0 := (hb.cell (p := ⟨bk, off + k * 5, none⟩) hbl).trans g0
      have e1 := (hb.cell (p := ⟨bk, off + k * 5 + 1, none⟩) hbl).trans g1
      have e2 := (hb.cell (p := ⟨bk, off + k * 5 + 2, none⟩) hbl).trans g2
      have e3 := (hb.cell (p := ⟨bk, off + k * 5 + 3, none⟩) hbl).trans g3
      have e4 := (hb.cell (p := ⟨bk, off + k * 5 + 4, none⟩) hbl).trans g4
      obtain ⟨⟨kd, zn, bn, su, st⟩, hr⟩ : ∃ r, rl.getD k rt0 = r := ⟨_, rfl⟩
      rw [hr] at e0 e1 e2 e3 e4 u1 u3
      simp only at e0 e1 e2 e3 e4 u1 u3
      obtain ⟨m, hm2⟩ : ∃ m, st.length = m := ⟨_, rfl⟩
      rw [hm2] at e4 u1
      obtain ⟨W, hW⟩ : ∃ W, wr.alloc (.cells #[.int .i64 kd, .string zn, .string bn, .int .i64 su, .slice S m c] 63) = W := ⟨_, rfl⟩
      obtain ⟨q, hq⟩ : ∃ q, wr.heap.size = q := ⟨_, rfl⟩
      have hbw : Below W1.heap.size W1 W := hW ▸ hb.alloc hs _
      have hbq : Blk W q 63 #[.int .i64 kd, .string zn, .string bn, .int .i64 su, .slice S m c] := hW ▸ hq ▸ Blk.new wr _ _
      obtain ⟨k1, hk1⟩ : ∃ v, decide (kd < 1) = v := ⟨_, rfl⟩
      obtain ⟨k2, hk2⟩ : ∃ v, decide (5 ≤ kd) = v := ⟨_, rfl⟩
      obtain ⟨s1, hs1⟩ : ∃ v, decide (su < 0) = v := ⟨_, rfl⟩
      obtain ⟨s2, hs2⟩ : ∃ v, decide (1125899906842624 < su) = v := ⟨_, rfl⟩
      obtain ⟨vz, hvz⟩ : ∃ v, zkn zl zn = v := ⟨_, rfl⟩
      obtain ⟨vb, hvb⟩ : ∃ v, bkn bl bn = v := ⟨_, rfl⟩
      obtain ⟨se, hse⟩ : ∃ v, stepsE st = v := ⟨_, rfl⟩
      have HVV : Hid (rtE zl bl ⟨kd, zn, bn, su, st⟩ = rtV (!k1 && !k2) vz vb (!s1 && !s2) se) := Lib.hid (by
        unfold rtE
        rw [inB_not hk1 (show decide (4 < kd) = k2 by rw [← hk2]; congr 1), inB_not hs1 hs2, hvz, hvb, hse])
      have HZC := Lib.hid (fun (W' : World) (h : Below W.heap.size W W') => HZ.out W' zn vz (hbw.trans (h.mono hbw.size)) hvz)
      have HBC := Lib.hid (fun (W' : World) (h : Below W.heap.size W W') => HBD.out W' bn vb (hbw.trans (h.mono hbw.size)) hvb)
      have HST := Lib.hid (fun (W' : World) (h : Below W.heap.size W W') => refStepsC hse S m c W' (u3.below (hbw.trans (h.mono hbw.size)) rfl) hm2 u1 u2)
      have hf := HF.out
      rw [fstN_next hlt] at hf
      simp only [hr] at hf
      rw [HVV.out] at hf
      have HF2 := Lib.hid hf
      have HBW := Lib.hid hbw; have HBQ := Lib.hid hbq
      have HTW := Lib.hid (HBK.out.below hbw HBK.out.lt)
      obtain ⟨a0, a1, a2, a3, a4, a5, a6⟩ := seven (HBK.out.below hb HBK.out.lt)
      obtain ⟨b0, b1, b2, b3, b4, b5, b6⟩ := seven HTW.out
      obtain ⟨c0, c1, c2, c3, c4⟩ := five hbq
      clear g0 g1 g2 g3 g4 u1 u2 u3 hr hf hm2 hbw hbl hbq HF HV HVV hvz hvb hse
      rcases rate_ways k1 k2 vz vb s1 s2 with rfl | ⟨rfl, rfl⟩ | ⟨rfl, rfl, rfl⟩ | ⟨rfl, rfl, rfl, rfl⟩ | ⟨rfl, rfl, rfl, rfl, rfl⟩ | ⟨rfl, rfl, rfl, rfl, rfl, rfl⟩ | ⟨rfl, rfl, rfl, rfl, rfl, rfl⟩
      all_goals
        try (
          go_wp2_with (first
            | (go_at_call 89; (with_reducible refine (HZC.out _ (Below.refl _ _)).mono ?_); rintro e w3 ⟨rfl, hb3⟩; have HB3 := Lib.hid hb3; clear hb3 b0 b1 b2 b3 b4 b5 b6 c0 c1 c2 c3 c4; obtain ⟨b0, b1, b2, b3, b4, b5, b6⟩ := seven (HTW.out.below HB3.out HTW.out.lt); obtain ⟨c0, c1, c2, c3, c4⟩ := five (HBQ.out.below HB3.out HBQ.out.lt))
            | (go_at_call 90; (with_reducible refine (HBC.out _ HB3.out).mono ?_); rintro e w4 ⟨rfl, hb4⟩; have HB4 := Lib.hid (HB3.out.trans (hb4.mono HB3.out.size)); clear hb4 b0 b1 b2 b3 b4 b5 b6 c0 c1 c2 c3 c4; obtain ⟨c0, c1, c2, c3, c4⟩ := five (HBQ.out.below HB4.out HBQ.out.lt)))
          go_ret
          first
            | exact ⟨ret_i (by rw [← HF2.out] <;> rfl), HB1.out.trans ((HBW.out.trans (HB4.out.mono HBW.out.size)).mono HB1.out.size)⟩
            | exact ⟨ret_i (by rw [← HF2.out] <;> rfl), HB1.out.trans ((HBW.out.trans (HB3.out.mono HBW.out.size)).mono HB1.out.size)⟩
            | exact ⟨ret_i (by rw [← HF2.out] <;> rfl), HB1.out.trans (HBW.out.mono HB1.out.size)⟩
          done)
      by_cases h0 : se = 0
      · subst h0
        have HF3 : Hid (fstN (fun k => rtE zl bl (rl.getD k rt0)) (k + 1) (rn - (k + 1)) = RE) := Lib.hid HF2.out
        go_wp2_with (first
          | (go_at_call 89; (with_reducible refine (HZC.out _ (Below.refl _ _)).mono ?_); rintro e w3 ⟨rfl, hb3⟩; have HB3 := Lib.hid hb3; clear hb3 b0 b1 b2 b3 b4 b5 b6 c0 c1 c2 c3 c4; obtain ⟨b0, b1, b2, b3, b4, b5, b6⟩ := seven (HTW.out.below HB3.out HTW.out.lt); obtain ⟨c0, c1, c2, c3, c4⟩ := five (HBQ.out.below HB3.out HBQ.out.lt))
          | (go_at_call 90; (with_reducible refine (HBC.out _ HB3.out).mono ?_); rintro e w4 ⟨rfl, hb4⟩; have HB4 := Lib.hid (HB3.out.trans (hb4.mono HB3.out.size)); clear hb4 b0 b1 b2 b3 b4 b5 b6 c0 c1 c2 c3 c4; obtain ⟨c0, c1, c2, c3, c4⟩ := five (HBQ.out.below HB4.out HBQ.out.lt))
          | (go_at_call 91; (with_reducible refine (HST.out _ HB4.out).mono ?_); rintro e w5 ⟨rfl, hb5⟩; have HB5 := Lib.hid (HBW.out.trans ((HB4.out.trans (hb5.mono HB4.out.size)).mono HBW.out.size)); clear hb5 c0 c1 c2 c3 c4 a0 a1 a2 a3 a4 a5 a6))
        go_roundw
        case rel => exact ⟨k + 1, by go_num, by omega, HB5.out, HF3⟩
        case measure => simp [RowKit.intOf]; omega
      · have d0 : (se != 0) = true := by rw [bne_iff_ne]; exact h0
        have HF3 : Hid (se = RE) := Lib.hid (by
          have h := HF2.out
          unfold rtV at h
          simp only [Bool.not_false, Bool.and_self, Bool.true_eq_false, if_false, h0] at h
          exact h)
        clear h0
        go_wp2_with (first
          | (go_at_call 89; (with_reducible refine (HZC.out _ (Below.refl _ _)).mono ?_); rintro e w3 ⟨rfl, hb3⟩; have HB3 := Lib.hid hb3; clear hb3 b0 b1 b2 b3 b4 b5 b6 c0 c1 c2 c3 c4; obtain ⟨b0, b1, b2, b3, b4, b5, b6⟩ := seven (HTW.out.below HB3.out HTW.out.lt); obtain ⟨c0, c1, c2, c3, c4⟩ := five (HBQ.out.below HB3.out HBQ.out.lt))
          | (go_at_call 90; (with_reducible refine (HBC.out _ HB3.out).mono ?_); rintro e w4 ⟨rfl, hb4⟩; have HB4 := Lib.hid (HB3.out.trans (hb4.mono HB3.out.size)); clear hb4 b0 b1 b2 b3 b4 b5 b6 c0 c1 c2 c3 c4; obtain ⟨c0, c1, c2, c3, c4⟩ := five (HBQ.out.below HB4.out HBQ.out.lt))
          | (go_at_call 91; (with_reducible refine (HST.out _ HB4.out).mono ?_); rintro e w5 ⟨rfl, hb5⟩; have HB5 := Lib.hid (HBW.out.trans ((HB4.out.trans (hb5.mono HB4.out.size)).mono HBW.out.size)); clear hb5 c0 c1 c2 c3 c4 a0 a1 a2 a3 a4 a5 a6))
        go_ret
        exact ⟨ret_i HF3.out, HB1.out.trans (HB5.out.mono HB1.out.size)⟩
    · obtain rfl : k = rn := by omega
      have HR : Hid (RE = 0) := Lib.hid (by rw [← HF.out, fstN_end])
      have dk : decide ((k : Int) < (k : Int)) = false := decide_eq_false (by omega)
      obtain ⟨a0, a1, a2, a3, a4, a5, a6⟩ := seven (HBK.out.below hb HBK.out.lt)
      clear HF HV
      go_wp2_with fail
      go_ret
      exact ⟨ret_i HR.out.symm, HB1.out.trans (hb.mono HB1.out.size)⟩
end Go.Proofs.YtpkmnefbofhjbaaGreat.Ck
