/- Walks: the rates and the discounts of a tariff. -/
import Derived.Test.YtpkmnefbofhjbaaGreatCkT
namespace Go.Proofs.YtpkmnefbofhjbaaGreat.Ck
open Go Go.Lib Go.RowKit Go.Proofs.YtpkmnefbofhjbaaGreat Go.Maps

theorem checkRate_is {r : Rt} {t : Tf} {v : Int} (h : rtE t.zl t.bl r = v) (S : Option Addr) (m c : Nat) (w : World) (hN : TfN t) (hT : TfR w t) (hS : SpR w S r.st) (hm : r.st.length = m) (hc : m ≤ c) (hcm : c ≤ maxLen) :
    Calls Tryz.prog 36 #[.agg #[.int .i64 r.kd, .string r.zn, .string r.bn, .int .i64 r.su, .slice S m c], .agg t.cells] w fun e w' => e = .returned (.int .i64 v) ∧ Below w.heap.size w w' := by
  subst h; exact checkRate_any r S m c t w hN hT hS hm hc hcm
set_option maxRecDepth 100000 in
set_option maxHeartbeats 8000000 in
theorem tar1_any (k : Nat) (r : Rt) (S : Option Addr) (m c p : Nat) (t : Tf) (w : World) (v : Int) (hv : rtE t.zl t.bl r = v) (hN : TfN t) (hT : TfR w t) (hS : SpR w S r.st) (hm : r.st.length = m) (hc : m ≤ c) (hcm : c ≤ maxLen) (hp : Blk w p 32 t.cells) :
    Calls Tryz.prog 35 #[.int .i64 k, .agg #[.int .i64 r.kd, .string r.zn, .string r.bn, .int .i64 r.su, .slice S m c], .pointer (some ⟨p, 0, none⟩)] w fun e w' => e = .returned (.int .i64 v) ∧ Below w.heap.size w w' := by
  have HB := Lib.hid (below_one w (.cells #[.int .i64 r.kd, .string r.zn, .string r.bn, .int .i64 r.su, .slice S m c] 63))
  have HC := Lib.hid (checkRate_is hv S m c _ hN (hT.below HB.out) (hS.below HB.out rfl) hm hc hcm)
  obtain ⟨a0, a1, a2, a3, a4⟩ := five (Blk.new w 63 #[.int .i64 r.kd, .string r.zn, .string r.bn, .int .i64 r.su, .slice S m c])
  obtain ⟨tnm, tfr, tsp, ZA, zln, zcp, zl, BA, bln, bcp, bl, RA, rn, rc, rl, DA, dn, dc, dl⟩ := t
  simp only [Tf.cells] at hp HC
  obtain ⟨b0, b1, b2, b3, b4, b5, b6⟩ := seven (hp.alloc (.cells #[.int .i64 r.kd, .string r.zn, .string r.bn, .int .i64 r.su, .slice S m c] 63))
  clear hN hT hS hp hv hm
  go_enter Tryz.func35, Tryz.ntmps35
  go_wp2_with (go_at_call 36; (with_reducible refine HC.out.mono ?_); rintro e w1 ⟨rfl, hb1⟩; have HB1 := Lib.hid (HB.out.trans (hb1.mono HB.out.size)); clear hb1 a0 a1 a2 a3 a4 b0 b1 b2 b3 b4 b5 b6)
  go_ret
  exact ⟨rfl, HB1.out⟩
set_option maxRecDepth 100000 in
set_option maxHeartbeats 8000000 in
theorem examineR_any (t : Tf) (p : Nat) (w : World) (hN : TfN t) (hT : TfR w t) (hp : Blk w p 32 t.cells) :
    Calls Tryz.prog 34 #[.func (.func 35) #[] #[.pointer (some ⟨p, 0, none⟩)], .slice t.RA t.rn t.rc] w fun e w' => e = .returned (.int .i64 (ratesE t)) ∧ Below w.heap.size w w' := by
  have hm := hN.rm
  have hc := hN.rc
  unfold maxLen at hm
  obtain ⟨n, hn⟩ : ∃ n, t.rn = n := ⟨_, rfl⟩
  have HRE : Hid (ratesE t = if 64 < n then 5 else fstN (fun k => rtE t.zl t.bl (t.rl.getD k rt0)) 0 n) := Lib.hid (by unfold ratesE; rw [hn])
  have HN := Lib.hid hN; have HT := Lib.hid hT; have HP := Lib.hid hp; have HRL := Lib.hid (show t.rl.length = n by rw [hN.rl, hn])
  rw [hn] at hc ⊢
  by_cases h64 : 64 < n
  · have d1 : decide ((64 : Int) < (n : Int)) = true := decide_eq_true (by omega)
    have HR : Hid (ratesE t = 5) := Lib.hid (by rw [HRE.out, if_pos h64])
    clear hN hT hp h64 hn
    go_enter Tryz.func34, Tryz.ntmps34
    go_wp2_with fail
    go_ret
    exact ⟨ret_i HR.out.symm, Below.refl _ _⟩
  · have d1 : decide ((64 : Int) < (n : Int)) = false := decide_eq_false (by omega)
    have HV : Hid (ratesE t = fstN (fun k => rtE t.zl t.bl (t.rl.getD k rt0)) 0 n) := Lib.hid (by rw [HRE.out, if_neg h64])
    clear hN hT hp h64 hn
    go_enter Tryz.func34, Tryz.ntmps34
    go_wp2_with fail
    clear d1
    go_loopw [13] (fun iv wr => ∃ (k : Nat), iv = .int .i64 k ∧ k ≤ n ∧ Below w.heap.size w wr ∧ Hid (fstN (fun k => rtE t.zl t.bl (t.rl.getD k rt0)) k (n - k) = ratesE t)) (fun iv _ => n - (RowKit.intOf iv).toNat)
    case atStart => exact ⟨0, rfl, by omega, Below.refl _ _, Lib.hid HV.out.symm⟩
    case round =>
      obtain ⟨k, rfl, hk, hb, HF⟩ := hrel
      have hs := hb.size
      by_cases hlt : k < n
      · have hlt' : (k : Int) < (n : Int) := by omega
        obtain ⟨bk, off, S, c, hAe, hbl, g0, g1, g2, g3, g4, u1, u2, u3⟩ := HT.out.r k (by rw [HRL.out]; exact hlt)
        rw [hAe]
        have e0 := (hb.cell (p := ⟨bk, off + k * 5, none⟩) hbl).trans g0
        have e1 := (hb.cell (p := ⟨bk, off + k * 5 + 1, none⟩) hbl).trans g1
        have e2 := (hb.cell (p := ⟨bk, off + k * 5 + 2, none⟩) hbl).trans g2
        have e3 := (hb.cell (p := ⟨bk, off + k * 5 + 3, none⟩) hbl).trans g3
        have e4 := (hb.cell (p := ⟨bk, off + k * 5 + 4, none⟩) hbl).trans g4
        obtain ⟨r, hr⟩ : ∃ r, t.rl.getD k rt0 = r := ⟨_, rfl⟩
        rw [hr] at e0 e1 e2 e3 e4 u1 u3
        obtain ⟨v, hv⟩ : ∃ v, rtE t.zl t.bl r = v := ⟨_, rfl⟩
        have hf := HF.out
        rw [fstN_next hlt] at hf
        simp only [hr, hv] at hf
        have HF2 := Lib.hid hf
        obtain ⟨kd, zn, bn, su, st⟩ := r
        simp only at e0 e1 e2 e3 e4 u1 u3
        obtain ⟨m, hm2⟩ : ∃ m, st.length = m := ⟨_, rfl⟩
        rw [hm2] at e4 u1
        have hbw := hb.alloc hs (.cells #[.int .i64 kd, .string zn, .string bn, .int .i64 su, .slice S m c] 63)
        have HC := Lib.hid (tar1_any k ⟨kd, zn, bn, su, st⟩ S m c p t (wr.alloc (.cells #[.int .i64 kd, .string zn, .string bn, .int .i64 su, .slice S m c] 63)) v hv HN.out (HT.out.below hbw) (u3.below hbw rfl) hm2 u1 u2 (HP.out.below hbw HP.out.lt))
        simp only at HC
        obtain ⟨c0, c1, c2, c3, c4⟩ := five (Blk.new wr 63 #[.int .i64 kd, .string zn, .string bn, .int .i64 su, .slice S m c])
        have HBW := Lib.hid hbw
        clear g0 g1 g2 g3 g4 u1 u2 u3 hr hv hf hm2 hbw hbl HF HV
        by_cases h0 : v = 0
        · subst h0
          rw [if_pos rfl] at HF2
          go_wp2_with (go_at_call 35; (with_reducible refine HC.out.mono ?_); rintro e w1 ⟨rfl, hb1⟩; have HB1 := Lib.hid (HBW.out.trans (hb1.mono HBW.out.size)); clear hb1 c0 c1 c2 c3 c4 e0 e1 e2 e3 e4)
          go_roundw
          case rel => exact ⟨k + 1, by go_num, by omega, HB1.out, HF2⟩
          case measure => simp [RowKit.intOf]; omega
        · have d0 : (v == 0) = false := by rw [beq_eq_false_iff_ne]; exact h0
          rw [if_neg h0] at HF2
          clear h0
          go_wp2_with (go_at_call 35; (with_reducible refine HC.out.mono ?_); rintro e w1 ⟨rfl, hb1⟩; have HB1 := Lib.hid (HBW.out.trans (hb1.mono HBW.out.size)); clear hb1 c0 c1 c2 c3 c4 e0 e1 e2 e3 e4)
          go_ret
          exact ⟨ret_i HF2.out, HB1.out⟩
      · obtain rfl : k = n := by omega
        have HR : Hid (ratesE t = 0) := Lib.hid (by rw [← HF.out, fstN_end])
        have dk : decide ((k : Int) < (k : Int)) = false := decide_eq_false (by omega)
        clear HF HV
        go_wp2_with fail
        go_ret
        exact ⟨ret_i HR.out.symm, hb⟩
theorem cd1_any (d x : Dc) (S S' : Value) (g : Nat) (W : World) (hB : Blk W g 69 #[.string x.nm, .int .i64 x.op, .int .i64 x.num, .string x.tx, S', .int .i64 x.pt]) (v : Bool) (hv : decide (d.nm = x.nm) = v) :
    Calls Tryz.prog 80 #[.agg #[.string d.nm, .int .i64 d.op, .int .i64 d.num, .string d.tx, S, .int .i64 d.pt], .pointer (some ⟨g, 0, none⟩)] W fun e w' => e = .returned (.bool v) ∧ Below W.heap.size W w' := by
  subst hv
  have h1 := (hB.alloc (.cells #[.string d.nm, .int .i64 d.op, .int .i64 d.num, .string d.tx, S, .int .i64 d.pt] 69)).cell 0
  have h2 := Blk.new W 69 #[.string d.nm, .int .i64 d.op, .int .i64 d.num, .string d.tx, S, .int .i64 d.pt]
  go_enter Tryz.func80, Tryz.ntmps80
  go_wp2
  go_ret
  exact ⟨ret_b (sEq _ _), (Below.refl _ _).alloc (Nat.le_refl _) _⟩
theorem any_takeD {l : List Dc} {m : Nat} {p : Dc → Bool} (h : ∀ j, j < m → p (l.getD j dc0) = false) (hm : m ≤ l.length) : (l.take m).any p = false := by
  rw [List.any_eq_false]
  intro x hx
  obtain ⟨j, hj, rfl⟩ := List.mem_iff_getElem.1 hx
  rw [List.length_take] at hj
  have := h j (by omega)
  simpa [List.getD, List.getElem?_eq_getElem (show j < l.length by omega)] using this
theorem any_takeD_yes {l : List Dc} {m k : Nat} {p : Dc → Bool} (hk : k < m) (hm : m ≤ l.length) (h : p (l.getD k dc0) = true) : (l.take m).any p = true := by
  rw [List.any_eq_true]
  refine ⟨l.getD k dc0, ?_, h⟩
  rw [List.mem_take_iff_getElem]
  exact ⟨k, by omega, by simp [List.getD, List.getElem?_eq_getElem (show k < l.length by omega)]⟩
set_option maxRecDepth 100000 in
set_option maxHeartbeats 4000000 in
theorem indexD_any (A : Option Addr) (n m c : Nat) (l : List Dc) (x : Dc) (S' : Value) (g : Nat) (w : World) (hA : DcR w A l) (hn : l.length = n) (hmn : m ≤ n) (hc : n ≤ c) (hm : c ≤ maxLen) (hB : Blk w g 69 #[.string x.nm, .int .i64 x.op, .int .i64 x.num, .string x.tx, S', .int .i64 x.pt]) :
    Calls Tryz.prog 106 #[.slice A m c, .func (.func 80) #[] #[.pointer (some ⟨g, 0, none⟩)]] w fun e w' => (∃ v : Int, e = .returned (.int .i64 v) ∧ decide (0 ≤ v) = (l.take m).any (fun e => decide (e.nm = x.nm))) ∧ Below w.heap.size w w' := by
  unfold maxLen at hm
  have HA := Lib.hid hA; have HN := Lib.hid hn; have HB := Lib.hid hB
  clear hA hn hB
  go_enter Tryz.func106, Tryz.ntmps106
  go_wp2_with fail
  go_loopw [8] (fun iv wr => ∃ k : Nat, iv = .int .i64 k ∧ k ≤ m ∧ Below w.heap.size w wr ∧ Hid (∀ j, j < k → decide ((l.getD j dc0).nm = x.nm) = false)) (fun iv _ => m - (RowKit.intOf iv).toNat)
  case atStart => exact ⟨0, rfl, by omega, Below.refl _ _, Lib.hid fun j h => absurd h (Nat.not_lt_zero j)⟩
  case round =>
    obtain ⟨k, rfl, hk, hb, HO⟩ := hrel
    have hs := hb.size
    by_cases hlt : k < m
    · obtain ⟨bk, off, S, c2, d2, rfl, hbl, g0, g1, g2, g3, g4, g5, _⟩ := HA.out k (by rw [HN.out]; omega)
      have e0 := (hb.cell (p := ⟨bk, off + k * 6, none⟩) hbl).trans g0
      have e1 := (hb.cell (p := ⟨bk, off + k * 6 + 1, none⟩) hbl).trans g1
      have e2 := (hb.cell (p := ⟨bk, off + k * 6 + 2, none⟩) hbl).trans g2
      have e3 := (hb.cell (p := ⟨bk, off + k * 6 + 3, none⟩) hbl).trans g3
      have e4 := (hb.cell (p := ⟨bk, off + k * 6 + 4, none⟩) hbl).trans g4
      have e5 := (hb.cell (p := ⟨bk, off + k * 6 + 5, none⟩) hbl).trans g5
      have hlt' : (k : Int) < (m : Int) := by omega
      obtain ⟨d, hp⟩ : ∃ p, l.getD k dc0 = p := ⟨_, rfl⟩
      rw [hp] at e0 e1 e2 e3 e4 e5
      clear g0 g1 g2 g3 g4 g5
      cases hv : decide (d.nm = x.nm)
      · have HC := Lib.hid (cd1_any d x (.slice S d.us.length c2) S' g wr (HB.out.below hb HB.out.lt) _ hv)
        have HO2 : Hid (∀ j, j < k + 1 → decide ((l.getD j dc0).nm = x.nm) = false) := Lib.hid fun j h => by
          rcases Nat.lt_or_ge j k with h | h
          · exact HO.out j h
          · obtain rfl : j = k := by omega
            rw [hp]; exact hv
        clear hp hv HO
        go_wp2_with (go_at_call 80; (with_reducible refine HC.out.mono ?_); rintro e w1 ⟨rfl, hb1⟩; have hb2 := hb.trans (hb1.mono hs))
        go_roundw
        case rel => exact ⟨k + 1, by go_num, by omega, hb2, HO2⟩
        case measure => simp [RowKit.intOf]; omega
      · have HC := Lib.hid (cd1_any d x (.slice S d.us.length c2) S' g wr (HB.out.below hb HB.out.lt) _ hv)
        have HR := Lib.hid (any_takeD_yes (p := fun e => decide (e.nm = x.nm)) hlt (by rw [HN.out]; exact hmn) (by rw [hp]; exact hv))
        clear hp hv HO
        go_wp2_with (go_at_call 80; (with_reducible refine HC.out.mono ?_); rintro e w1 ⟨rfl, hb1⟩; have hb2 := hb.trans (hb1.mono hs))
        go_ret
        exact ⟨⟨k, rfl, by rw [HR.out]; exact decide_eq_true (by omega)⟩, hb2⟩
    · obtain rfl : k = m := by omega
      have HR := Lib.hid (any_takeD (p := fun e => decide (e.nm = x.nm)) (fun j hj => HO.out j hj) (by rw [HN.out]; exact hmn))
      clear HO
      go_wp2_with fail
      go_ret
      exact ⟨⟨-1, rfl, by rw [HR.out]; rfl⟩, hb⟩
set_option maxHeartbeats 1000000 in
theorem containsD_is (A : Option Addr) (n m c : Nat) (l : List Dc) (x : Dc) (S' : Value) (g : Nat) (w : World) (hA : DcR w A l) (hn : l.length = n) (hmn : m ≤ n) (hc : n ≤ c) (hm : c ≤ maxLen) (hB : Blk w g 69 #[.string x.nm, .int .i64 x.op, .int .i64 x.num, .string x.tx, S', .int .i64 x.pt])
    (v : Bool) (hv : (l.take m).any (fun e => decide (e.nm = x.nm)) = v) :
    Calls Tryz.prog 79 #[.slice A m c, .func (.func 80) #[] #[.pointer (some ⟨g, 0, none⟩)]] w fun e w' => e = .returned (.bool v) ∧ Below w.heap.size w w' := by
  have H := Lib.hid (indexD_any A n m c l x S' g w hA hn hmn hc hm hB)
  rw [hv] at H
  clear hA hn hB hv
  go_enter Tryz.func79, Tryz.ntmps79
  go_wp2_with (go_at_call 106; (with_reducible refine H.out.mono ?_); rintro e w1 ⟨⟨v1, rfl, hv1⟩, hb⟩)
  go_ret
  exact ⟨rfl, hb⟩
end Go.Proofs.YtpkmnefbofhjbaaGreat.Ck
