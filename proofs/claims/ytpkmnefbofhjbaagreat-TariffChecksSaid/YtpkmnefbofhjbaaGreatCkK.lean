/- Walks of the reference: the discounts of a tariff; Tariff. -/
import Derived.Test.YtpkmnefbofhjbaaGreatCkJ
namespace Go.Proofs.YtpkmnefbofhjbaaGreat.Ck
open Go Go.Lib Go.RowKit Go.Proofs.YtpkmnefbofhjbaaGreat Go.Maps

theorem refExprC {op num : Int} {tx : ByteArray} {args : List Ex} {s v : Int} (h : sortX 16 (.mk op num tx args) = (s, v)) (A : Option Addr) (d n c : Nat) (w : World) (hA : XA w d A args) (hn : args.length = n) (hc : n ≤ c) (hm : c ≤ maxLen) (ht : tx.size ≤ maxLen) :
    Calls Tryz.prog 92 #[.agg #[.int .i64 op, .int .i64 num, .string tx, .slice A n c]] w fun e w' => e = .returned (.tuple #[.int .i64 s, .int .i64 v]) ∧ Below w.heap.size w w' := by
  have := refExpr_any op num tx args A d n c w hA hn hc hm ht
  unfold SoOut at this
  rw [h] at this
  exact this
theorem refName_isB (s : ByteArray) (v : Bool) (h : nmOk s = v) (w : World) (hs : s.size ≤ maxLen) : Calls Tryz.prog 43 #[.string s] w fun e w' => e = .returned (.bool v) ∧ w = w' := by
  subst h; exact (refName26_any s w hs).mono fun e w' h => ⟨h.1, h.2.symm⟩
theorem disc_ways (e0 s3 p1 p2 : Bool) : e0 = true ∨ (e0 = false ∧ s3 = true) ∨ (e0 = false ∧ s3 = false ∧ p1 = true) ∨ (e0 = false ∧ s3 = false ∧ p1 = false ∧ p2 = true) ∨ (e0 = false ∧ s3 = false ∧ p1 = false ∧ p2 = false) := by
  cases e0 <;> cases s3 <;> cases p1 <;> cases p2 <;> simp
set_option maxRecDepth 100000 in
set_option maxHeartbeats 16000000 in
theorem refDisc_any (t : Tf) (w : World) (hN : TfN t) (hT : TfR w t) :
    Calls Tryz.prog 47 #[.agg t.cells] w fun e w' => e = .returned (.int .i64 (discE t)) ∧ Below w.heap.size w w' := by
  obtain ⟨W1, hW1⟩ : ∃ W, w.alloc (.cells t.cells 32) = W := ⟨_, rfl⟩
  obtain ⟨g, hg⟩ : ∃ g, w.heap.size = g := ⟨_, rfl⟩
  have hbk : Blk W1 g 32 t.cells := hW1 ▸ hg ▸ Blk.new w _ _
  have hb1 : Below w.heap.size w W1 := hW1 ▸ below_one w _
  have HB1 := Lib.hid hb1; have HBK := Lib.hid hbk
  have hm := hN.dm; have hc := hN.dc
  unfold maxLen at hm
  have HRE : Hid (discE t = if 64 < t.dn then 5 else fstN (dcE t.dl) 0 t.dn) := Lib.hid rfl
  have HRL := Lib.hid hN.dl
  have HR0 := Lib.hid (hT.below hb1).d
  obtain ⟨dl, hdl⟩ : ∃ l, t.dl = l := ⟨_, rfl⟩
  obtain ⟨RE, hRE⟩ : ∃ x, discE t = x := ⟨_, rfl⟩
  rw [hdl, hRE] at HRE
  rw [hdl] at HRL HR0
  rw [hRE]
  clear hdl hRE
  obtain ⟨tnm, tfr, tsp, ZA, zln, zcp, zl0, BA, bln, bcp, bl0, RA, rn, rc, rl0, DA, dn, dc, dl0⟩ := t
  simp only [Tf.cells] at HBK hW1 hm hc HRE HRL HR0 ⊢
  obtain ⟨a0, a1, a2, a3, a4, a5, a6⟩ := seven HBK.out
  clear hN hT hbk hb1
  by_cases h64 : 64 < dn
  · have d1 : decide ((64 : Int) < (dn : Int)) = true := decide_eq_true (by omega)
    have HR : Hid (RE = 5) := Lib.hid (by rw [HRE.out, if_pos h64])
    clear h64
    go_enter Tryz.func47, Tryz.ntmps47
    go_wp2_with fail
    go_ret
    exact ⟨ret_i HR.out.symm, HB1.out⟩
  have d1 : decide ((64 : Int) < (dn : Int)) = false := decide_eq_false (by omega)
  have HV : Hid (RE = fstN (dcE dl) 0 dn) := Lib.hid (by rw [HRE.out, if_neg h64])
  clear h64
  go_enter Tryz.func47, Tryz.ntmps47
  go_wp2_with fail
  clear d1 a0 a1 a2 a3 a4 a5 a6
  go_loopw [3] (fun iv wr => ∃ (k : Nat), iv = .int .i64 k ∧ k ≤ dn ∧ Below W1.heap.size W1 wr ∧ Hid (fstN (dcE dl) k (dn - k) = RE)) (fun iv _ => dn - (RowKit.intOf iv).toNat)
  case atStart => exact ⟨0, rfl, by omega, Below.refl _ _, Lib.hid HV.out.symm⟩
  case round =>
    obtain ⟨k, rfl, hk, hb, HF⟩ := hrel
    have hs := hb.size
    by_cases hlt : k < dn
    · have hlt' : (k : Int) < (dn : Int) := by omega
      obtain ⟨bk, off, S, c, d, hAe, hbl, g0, g1, g2, g3, g4, g5, u1, u2, u3, u4, u5⟩ := HR0.out k (by rw [HRL.out]; exact hlt)
      have e0 := (hb.cell (p := ⟨bk, off + k * 6, none⟩) hbl).trans g0
      have e1 := (hb.cell (p := ⟨bk, off + k * 6 + 1, none⟩) hbl).trans g1
      have e2 := (hb.cell (p := ⟨bk, off + k * 6 + 2, none⟩) hbl).trans g2
      have e3 := (hb.cell (p := ⟨bk, off + k * 6 + 3, none⟩) hbl).trans g3
      have e4 := (hb.cell (p := ⟨bk, off + k * 6 + 4, none⟩) hbl).trans g4
      have e5 := (hb.cell (p := ⟨bk, off + k * 6 + 5, none⟩) hbl).trans g5
      obtain ⟨⟨nm, op, num, tx, us, pt⟩, hr⟩ : ∃ r, dl.getD k dc0 = r := ⟨_, rfl⟩
      rw [hr] at e0 e1 e2 e3 e4 e5 u1 u3 u4 u5
      simp only at e0 e1 e2 e3 e4 e5 u1 u3 u4 u5
      obtain ⟨m, hm2⟩ : ∃ m, us.length = m := ⟨_, rfl⟩
      rw [hm2] at e4 u1
      obtain ⟨W, hW⟩ : ∃ W, wr.alloc (.cells #[.string nm, .int .i64 op, .int .i64 num, .string tx, .slice S m c, .int .i64 pt] 69) = W := ⟨_, rfl⟩
      obtain ⟨q, hq⟩ : ∃ q, wr.heap.size = q := ⟨_, rfl⟩
      have hbw : Below W1.heap.size W1 W := hW ▸ hb.alloc hs _
      have hbq : Blk W q 69 #[.string nm, .int .i64 op, .int .i64 num, .string tx, .slice S m c, .int .i64 pt] := hW ▸ hq ▸ Blk.new wr _ _
      obtain ⟨vn, hvn⟩ : ∃ v, nmOk nm = v := ⟨_, rfl⟩
      obtain ⟨sv, hsv⟩ : ∃ v, sortX 16 (.mk op num tx us) = v := ⟨_, rfl⟩
      obtain ⟨s, er⟩ := sv
      obtain ⟨p1, hp1⟩ : ∃ v, decide (pt < 0) = v := ⟨_, rfl⟩
      obtain ⟨p2, hp2⟩ : ∃ v, decide (10000 < pt) = v := ⟨_, rfl⟩
      obtain ⟨q0, hq0⟩ : ∃ v, (er != 0) = v := ⟨_, rfl⟩
      obtain ⟨s3, hs3⟩ : ∃ v, (s != 3) = v := ⟨_, rfl⟩
      have HVV : Hid (∀ ve, ((dl.take k).any fun e => decide (e.nm = nm)) = ve → dcE dl k = if vn = false then 8 else if ve = true then 10 else if q0 = true then er else if s3 = true then 7 else if (!p1 && !p2) = false then 6 else 0) := Lib.hid (fun ve hve => by
        unfold dcE
        rw [hr]
        simp only
        rw [hvn, hve, show sortX 16 (Dc.wh ⟨nm, op, num, tx, us, pt⟩) = (s, er) from hsv, inB_not hp1 hp2]
        unfold dcV
        rw [← hq0, ← hs3]
        simp only [bne_iff_ne])
      have HNM := Lib.hid (fun (W' : World) => refName_isB nm vn hvn W' u4)
      have HEX := Lib.hid (fun (W' : World) (h : Below W.heap.size W W') => refExprC hsv S d m c W' (u3.below (hbw.trans (h.mono hbw.size))) hm2 u1 u2 u5)
      have hf := HF.out
      rw [fstN_next hlt] at hf
      have HF2 := Lib.hid hf
      have HBW := Lib.hid hbw; have HBQ := Lib.hid hbq
      have HTW := Lib.hid (HBK.out.below hbw HBK.out.lt)
      have HAE := Lib.hid hAe
      obtain ⟨a0, a1, a2, a3, a4, a5, a6⟩ := seven (HBK.out.below hb HBK.out.lt)
      obtain ⟨c0, c1, c2, c3, c4, c5⟩ := six hbq
      clear g0 g1 g2 g3 g4 g5 u1 u2 u3 u4 u5 hr hf hm2 hbw hbq HF HV hvn hsv
      cases vn
      · have HR : Hid (RE = 8) := Lib.hid (by
          have h := HF2.out
          rw [HVV.out _ rfl, if_pos rfl, if_neg (by decide)] at h
          exact h.symm)
        rw [hAe] at a6
        rw [hAe]
        go_wp2_with (go_at_call 43; (with_reducible refine (HNM.out _).mono ?_); rintro e w3 ⟨rfl, rfl⟩)
        go_ret
        exact ⟨ret_i HR.out.symm, HB1.out.trans (HBW.out.mono HB1.out.size)⟩
      · rw [hAe] at a6
        rw [hAe]
        go_upto_region 9 with (go_at_call 43; (with_reducible refine (HNM.out _).mono ?_); rintro e w3 ⟨rfl, rfl⟩)
        go_wp2_with fail
        clear a0 a1 a2 a3 a4 a5 a6 c0 c1 c2 c3 c4 c5 e0 e1 e2 e3 e4 e5
        go_loopw [5] (fun iv wx => ∃ (j : Nat), iv = .int .i64 j ∧ j ≤ k ∧ Below W.heap.size W wx ∧ Hid (∀ i, i < j → decide ((dl.getD i dc0).nm = nm) = false)) (fun iv _ => k - (RowKit.intOf iv).toNat)
        case atStart => exact ⟨0, rfl, by omega, Below.refl _ _, Lib.hid fun i h => absurd h (Nat.not_lt_zero i)⟩
        case round =>
          obtain ⟨j, rfl, hj, hx, HO⟩ := hrel
          obtain ⟨a0, a1, a2, a3, a4, a5, a6⟩ := seven (HTW.out.below hx HTW.out.lt)
          obtain ⟨c0, c1, c2, c3, c4, c5⟩ := six (HBQ.out.below hx HBQ.out.lt)
          rw [HAE.out] at a6
          by_cases hjk : j < k
          · have hjk' : (j : Int) < (k : Int) := by omega
            have hjd : (j : Int) < (dn : Int) := by omega
            obtain ⟨bj, offj, _, _, _, hAj, hblj, g0, _⟩ := HR0.out j (by rw [HRL.out]; omega)
            rw [HAE.out] at hAj
            obtain ⟨rfl, rfl⟩ : bk = bj ∧ off = offj := by have := Option.some.inj hAj; injection this with e1 e2; exact ⟨e1, e2⟩
            have e0 := ((HBW.out.trans (hx.mono HBW.out.size)).cell (p := ⟨bk, off + j * 6, none⟩) hblj).trans g0
            obtain ⟨x, hxn⟩ : ∃ x, (dl.getD j dc0).nm = x := ⟨_, rfl⟩
            rw [hxn] at e0
            obtain ⟨qv, hqv⟩ : ∃ v, (x.toList == nm.toList) = v := ⟨_, rfl⟩
            have HQ : Hid (decide ((dl.getD j dc0).nm = nm) = qv) := Lib.hid (by rw [hxn, ← hqv, sEq])
            have HJK := Lib.hid hjk
            clear hAj g0 hxn hjk
            cases qv
            · have HO2 : Hid (∀ i, i < j + 1 → decide ((dl.getD i dc0).nm = nm) = false) := Lib.hid fun i h => by
                rcases Nat.lt_or_ge i j with h | h
                · exact HO.out i h
                · obtain rfl : i = j := by omega
                  exact HQ.out
              go_wp2_with fail
              go_quiet (fail)
              generalize hWd : World.drewN wr _ = W5
              have HB5 : Hid (Below W.heap.size W W5) := Lib.hid (hWd ▸ below_dN hx _)
              clear hWd
              go_wp2_with fail
              go_roundw
              case rel => exact ⟨j + 1, by go_num, by omega, HB5.out, HO2⟩
              case measure => simp [RowKit.intOf]; omega
            · have HR : Hid (RE = 10) := Lib.hid (by
                have h := HF2.out
                rw [HVV.out true (any_takeD_yes (p := fun e => decide (e.nm = nm)) HJK.out (by rw [HRL.out]; omega) HQ.out)] at h
                simp only [Bool.true_eq_false, if_false, if_true] at h
                exact h.symm)
              go_wp2_with fail
              go_quiet (fail)
              generalize hWd : World.drewN wr _ = W5
              have HB5 : Hid (Below W.heap.size W W5) := Lib.hid (hWd ▸ below_dN hx _)
              clear hWd
              go_wp2_with fail
              go_ret
              exact ⟨ret_i HR.out.symm, HB1.out.trans ((HBW.out.trans (HB5.out.mono HBW.out.size)).mono HB1.out.size)⟩
          · obtain rfl : j = k := by omega
            have hd : decide ((j : Int) < (j : Int)) = false := decide_eq_false (by omega)
            have HVE := Lib.hid (HVV.out false (any_takeD (p := fun e => decide (e.nm = nm)) HO.out (by rw [HRL.out]; omega)))
            have HEE := Lib.hid (HEX.out _ hx)
            have HX := Lib.hid hx
            rcases disc_ways q0 s3 p1 p2 with rfl | ⟨rfl, rfl⟩ | ⟨rfl, rfl, rfl⟩ | ⟨rfl, rfl, rfl, rfl⟩ | ⟨rfl, rfl, rfl, rfl⟩
            · have HR : Hid (er = RE) := Lib.hid (by
                have h := HF2.out
                have hne : er ≠ 0 := by have := hq0; rw [bne_iff_ne] at this; exact this
                rw [HVE.out] at h
                simp only [Bool.true_eq_false, Bool.false_eq_true, if_false, if_true, hne] at h
                exact h)
              go_wp2_with (go_at_call 92; (with_reducible refine HEE.out.mono ?_); rintro e w6 ⟨rfl, hb6⟩; have HB6 := Lib.hid (HX.out.trans (hb6.mono HX.out.size)); clear hb6 c0 c1 c2 c3 c4 c5 a0 a1 a2 a3 a4 a5 a6)
              go_ret
              exact ⟨ret_i HR.out, HB1.out.trans ((HBW.out.trans (HB6.out.mono HBW.out.size)).mono HB1.out.size)⟩
            case' _ => skip
            all_goals
              try (
                have HR := HF2.out
                rw [HVE.out] at HR
                simp only [Bool.true_eq_false, Bool.false_eq_true, if_false, if_true, Bool.not_true, Bool.not_false, Bool.false_and, Bool.and_false, Bool.true_and] at HR
                rw [if_neg (by decide)] at HR
                have HR2 := Lib.hid HR
                clear HR
                go_wp2_with (go_at_call 92; (with_reducible refine HEE.out.mono ?_); rintro e w6 ⟨rfl, hb6⟩; have HB6 := Lib.hid (HX.out.trans (hb6.mono HX.out.size)); clear hb6 c0 c1 c2 c3 c4 c5 a0 a1 a2 a3 a4 a5 a6; obtain ⟨c0, c1, c2, c3, c4, c5⟩ := six (HBQ.out.below HB6.out HBQ.out.lt))
                go_ret
                exact ⟨ret_i HR2.out, HB1.out.trans ((HBW.out.trans (HB6.out.mono HBW.out.size)).mono HB1.out.size)⟩
                done)
            have HF3 : Hid (fstN (dcE dl) (j + 1) (dn - (j + 1)) = RE) := Lib.hid (by
              have h := HF2.out
              rw [HVE.out] at h
              simpa using h)
            go_wp2_with (go_at_call 92; (with_reducible refine HEE.out.mono ?_); rintro e w6 ⟨rfl, hb6⟩; have HB6 := Lib.hid (HX.out.trans (hb6.mono HX.out.size)); clear hb6 c0 c1 c2 c3 c4 c5 a0 a1 a2 a3 a4 a5 a6; obtain ⟨c0, c1, c2, c3, c4, c5⟩ := six (HBQ.out.below HB6.out HBQ.out.lt))
            go_roundw
            case rel => exact ⟨j + 1, by go_num, by omega, HBW.out.trans (HB6.out.mono HBW.out.size), HF3⟩
            case measure => simp [RowKit.intOf]; omega
    · obtain rfl : k = dn := by omega
      have HR : Hid (RE = 0) := Lib.hid (by rw [← HF.out, fstN_end])
      have dk : decide ((k : Int) < (k : Int)) = false := decide_eq_false (by omega)
      obtain ⟨a0, a1, a2, a3, a4, a5, a6⟩ := seven (HBK.out.below hb HBK.out.lt)
      clear HF HV
      go_wp2_with fail
      go_ret
      exact ⟨ret_i HR.out.symm, HB1.out.trans (hb.mono HB1.out.size)⟩
end Go.Proofs.YtpkmnefbofhjbaaGreat.Ck
