/- Walks: the reference's at; Expr of both sides. -/
import Derived.Test.YtpkmnefbofhjbaaGreatCkY
namespace Go.Proofs.YtpkmnefbofhjbaaGreat.Ck
open Go Go.Lib Go.RowKit Go.Proofs.YtpkmnefbofhjbaaGreat Go.Maps

theorem refOwn_is {op num : Int} {tx : ByteArray} {n : Nat} {v : Int} (h : ownE op num tx n = v) (A : Option Addr) (c : Nat) (w : World) (hc : n ≤ c) (hm : c ≤ maxLen) (ht : tx.size ≤ maxLen) :
    Calls Tryz.prog 117 #[.agg #[.int .i64 op, .int .i64 num, .string tx, .slice A n c]] w fun e w' => e = .returned (.int .i64 v) ∧ Below w.heap.size w w' := by
  subst h; exact refOwn_any op num tx A n c w hc hm ht
set_option maxRecDepth 100000 in
set_option maxHeartbeats 32000000 in
theorem refAt_any : ∀ (k : Nat) (z : Int) (_ : z + k = 17) (_ : 0 ≤ z) (op num : Int) (tx : ByteArray) (args : List Ex) (A : Option Addr) (d n c : Nat) (w : World), XA w d A args → args.length = n → n ≤ c → c ≤ maxLen → tx.size ≤ maxLen →
    Calls Tryz.prog 110 #[.agg #[.int .i64 op, .int .i64 num, .string tx, .slice A n c], .int .i64 z] w (SoOut k (.mk op num tx args) w) := by
  intro k
  induction k with
  | zero =>
    intro z hz hz0 op num tx args A d n c w hA hn hc hm ht
    obtain rfl : z = 17 := by omega
    have HB := Lib.hid (below_one w (.cells #[.int .i64 op, .int .i64 num, .string tx, .slice A n c] 67))
    have HR : Hid (sortX 0 (.mk op num tx args) = (0, 24)) := Lib.hid rfl
    clear hA hn hz
    go_enter Tryz.func110, Tryz.ntmps110
    go_wp2_with fail
    go_ret2
    exact SoOut.mk HR.out HB.out
  | succ k ih =>
    intro z hz hz0 op num tx args A d n c w hA hn hc hm ht
    have hz1 : z ≤ 16 := by omega
    obtain ⟨ow, how⟩ : ∃ o, ownE op num tx n = o := ⟨_, rfl⟩
    have HC := Lib.hid (fun W => refOwn_is (op := op) (num := num) (tx := tx) (n := n) (v := ow) how A c W hc hm ht)
    have dz : decide (16 < z) = false := decide_eq_false (by omega)
    obtain ⟨W1, hW1⟩ : ∃ W, w.alloc (.cells #[.int .i64 op, .int .i64 num, .string tx, .slice A n c] 67) = W := ⟨_, rfl⟩
    obtain ⟨g, hg⟩ : ∃ g, w.heap.size = g := ⟨_, rfl⟩
    have hbk : Blk W1 g 67 #[.int .i64 op, .int .i64 num, .string tx, .slice A n c] := hW1 ▸ hg ▸ Blk.new w _ _
    have HB := Lib.hid (show Below w.heap.size w W1 from hW1 ▸ below_one w _)
    have HBK := Lib.hid hbk
    obtain ⟨c0, c1, c2, c3⟩ := four hbk
    clear hbk
    by_cases h0 : ow = 0
    · subst h0
      obtain ⟨f, hf⟩ : ∃ f, sortX k = f := ⟨_, rfl⟩
      have HIH : Hid (∀ (o m : Int) (t : ByteArray) (us : List Ex) (A' : Option Addr) (d' n' c' : Nat) (W : World) (s v : Int), XA W d' A' us → us.length = n' → n' ≤ c' → c' ≤ maxLen → t.size ≤ maxLen → f (.mk o m t us) = (s, v) →
          Calls Tryz.prog 110 #[.agg #[.int .i64 o, .int .i64 m, .string t, .slice A' n' c'], .int .i64 (z + 1)] W fun e w' => e = .returned (.tuple #[.int .i64 s, .int .i64 v]) ∧ Below W.heap.size W w') := Lib.hid (fun o m t us A' d' n' c' W s v h1 h2 h3 h4 h5 h6 => by
        have := ih (z + 1) (by omega) (by omega) o m t us A' d' n' c' W h1 h2 h3 h4 h5
        unfold SoOut at this
        rw [hf, h6] at this
        exact this)
      have HOW := Lib.hid how
      have HN := Lib.hid hn
      have HM : Hid (n ≤ 2) := Lib.hid (by
        have h := own_len (n := n) how
        unfold arity at h
        (repeat' split at h) <;> omega)
      have HGS := Lib.hid hg
      have HXO : Hid (sortX (k + 1) (.mk op num tx args) = if (sorts f args).2 = 0 then finE op tx (sorts f args).1 else (0, (sorts f args).2)) := Lib.hid (by
        rw [sortX, hf, if_pos (by rw [hn]; exact how)])
      have HSO : Hid (∀ s ∈ (sorts f args).1, isSort s) := Lib.hid (by rw [← hf]; exact sorts_mem (fun e _ he => sortX_sort he))
      have HSL : Hid ((sorts f args).2 = 0 → (sorts f args).1.length = n) := Lib.hid (fun h => by rw [sorts_len h, hn])
      obtain ⟨i0, hi0, hz0', hz1', hz2'⟩ := info_parts intInfo
      clear ih hf how hn
      go_enter Tryz.func110, Tryz.ntmps110
      go_upto_region 8 with (go_at_call 117; (with_reducible refine (HC.out _).mono ?_); rintro e w1 ⟨rfl, hb1⟩; have HB1 := Lib.hid (HB.out.trans (hb1.mono HB.out.size)); have HBK1 := Lib.hid (HBK.out.below hb1 HBK.out.lt); clear hb1 c0 c1 c2 c3; obtain ⟨c0, c1, c2, c3⟩ := four HBK1.out)
      go_wp2_with fail
      have HA1 := Lib.hid (hA.below HB1.out)
      clear c0 c1 c2 c3 hA HC dz
      go_loopw [7, 8] (fun v iv wr => ∃ j : Nat, iv = .int .i64 j ∧ j ≤ n ∧ Below w1.heap.size w1 wr ∧ Hid (Acc f args w1.heap.size j v wr)) (fun _ iv _ => n - (RowKit.intOf iv).toNat)
      case atStart => exact ⟨0, rfl, by omega, Below.refl _ _, Lib.hid (Acc.zero _ _ _ _)⟩
      case round =>
        obtain ⟨j, rfl, hj, hb, HAC⟩ := hrel
        have hs := hb.size
        by_cases hlt : j < n
        · have hlt' : (j : Int) < (n : Int) := by omega
          have hj2 : j ≤ 1 := by have := HM.out; omega
          have hjl : j < args.length := by rw [HN.out]; exact hlt
          obtain ⟨b, off, o, m, t, us, A', c', rfl, hbl, hei, g0, g1, g2, g3, u1, u2, u3, hX⟩ := HA1.out.at hjl
          have e0 := (hb.cell (p := ⟨b, off + j * 4, none⟩) hbl).trans g0
          have e1 := (hb.cell (p := ⟨b, off + j * 4 + 1, none⟩) hbl).trans g1
          have e2 := (hb.cell (p := ⟨b, off + j * 4 + 2, none⟩) hbl).trans g2
          have e3 := (hb.cell (p := ⟨b, off + j * 4 + 3, none⟩) hbl).trans g3
          have c3 := (HBK1.out.below hb HBK1.out.lt).cell 3
          obtain ⟨nu, hnu⟩ : ∃ x, us.length = x := ⟨_, rfl⟩
          rw [hnu] at e3 u1
          have hbw := hb
          obtain ⟨sv, hsv⟩ : ∃ x, f (.mk o m t us) = x := ⟨_, rfl⟩
          obtain ⟨s, v⟩ := sv
          have HCL := Lib.hid (HIH.out o m t us A' (d - 1) nu c' wr s v (hX.below hbw) hnu u1 u2 u3 hsv)
          have HBW := Lib.hid hbw
          have HAW := HAC
          have HEI := Lib.hid hei; have HSV := Lib.hid hsv; have HJL := Lib.hid hjl
          clear g0 g1 g2 g3 u1 u2 u3 hX hnu hbw hei hsv hjl hbl HAC
          by_cases h0 : v = 0
          · subst h0
            go_wp2_with (first
              | (go_at_call 110; (with_reducible refine HCL.out.mono ?_); rintro e w3 ⟨rfl, hb3⟩; have HB3 := Lib.hid (HBW.out.trans (hb3.mono HBW.out.size)); have HA3 := Lib.hid (HAW.out.keep hb3); obtain ⟨acc, a1, a2, a3⟩ := HA3.out; have HA1' := Lib.hid a1; have HA23 := Lib.hid (show _ ∧ _ from ⟨a2, a3⟩); clear a1 a2 a3 hb3 e0 e1 e2 e3 c3)
              | (at_builtin; refine wpList_append_own_at _ rfl (.tmp 40) (.tmp 42) 41 rfl w1.heap.size 3 i0 _ 1 8 Tryz.underlying41 hi0 hz0' hz1' hz2' rfl (by decide) _ _ (acc.map (Value.int .i64)) rfl (HA1'.out.alloc _) ⟨w3.heap.size, 0, none⟩ 1 1 [.int .i64 s] rfl rfl src1 (by simp [Value.oneCell']) (by have := HM.out; unfold maxLen; omega) (by have := HM.out; omega) (by have := HB3.out.size; simp; omega) ?_; intro v4 w4 g1 g2 _ g3; have HA4 := Lib.hid (Acc.next HA23.out.2 HA23.out.1 HJL.out HEI.out HSV.out g1); have HB4 := Lib.hid (Zn.below_grown (HB3.out.alloc HB3.out.size _) g2 (fun j hj => (World.ownsRow.lt HA1'.out j hj).1) (by have := HB3.out.size; simp; omega)); clear g1 g2 g3))
            go_roundw
            case rel => exact ⟨j + 1, by go_num, by omega, HB4.out, HA4⟩
            case measure => simp [RowKit.intOf]; omega
          · have d0 : (v != 0) = true := by rw [bne_iff_ne]; exact h0
            have HR : Hid (sortX (k + 1) (.mk op num tx args) = (0, v)) := Lib.hid (by
              have h2 := HAW.out.stop HJL.out HEI.out HSV.out h0
              rw [HXO.out, h2, if_neg h0])
            clear h0
            go_wp2_with (go_at_call 110; (with_reducible refine HCL.out.mono ?_); rintro e w3 ⟨rfl, hb3⟩; have HB3 := Lib.hid (HB1.out.trans ((HBW.out.trans (hb3.mono HBW.out.size)).mono HB1.out.size)); clear hb3)
            go_ret2
            exact SoOut.mk HR.out HB3.out
        · obtain rfl : j = n := by omega
          have hd : decide ((j : Int) < (j : Int)) = false := decide_eq_false (by omega)
          obtain ⟨acc, B, cB, rfl, q1, q2, q3, q4, q5, q6⟩ := HAC.out.done HN.out
          have hla : (acc.length : Int) = arity op := by rw [q4]; exact own_len HOW.out
          obtain ⟨r, hr⟩ : ∃ x, resE op tx acc = x := ⟨_, rfl⟩
          have HFS : Hid (sortX (k + 1) (.mk op num tx args) = if r = 0 then (0, 7) else (r, 0)) := Lib.hid (by
            rw [HXO.out, q6, if_pos rfl, q5, ← hr]; rfl)
          have HSG := Lib.hid (refResult_any op num tx A j c B j cB acc wr q4 hla q3 q1)
          rw [hr] at HSG
          obtain ⟨c0, c1, c2, c3⟩ := four (HBK1.out.below hb HBK1.out.lt)
          have HBE := Lib.hid (HB1.out.trans (hb.mono HB1.out.size))
          obtain ⟨vv, hvv⟩ : ∃ v, (r == 0) = v := ⟨_, rfl⟩
          have HVV := Lib.hid hvv
          clear q1 q2 q3 q4 q5 q6 hla hr HAC
          cases vv
          · have HRN : Hid (r ≠ 0) := Lib.hid (by rw [← beq_eq_false_iff_ne]; exact HVV.out)
            go_wp2_with (go_at_call 118; (with_reducible refine HSG.out.mono ?_); rintro e w4 ⟨rfl, hb4⟩; have HB4 := Lib.hid (HBE.out.trans (hb4.mono HBE.out.size)); clear hb4 c0 c1 c2 c3)
            go_ret2
            exact SoOut.mk (by rw [HFS.out, if_neg HRN.out]) HB4.out
          · have HRN : Hid (r = 0) := Lib.hid (by rw [← beq_iff_eq]; exact HVV.out)
            go_wp2_with (go_at_call 118; (with_reducible refine HSG.out.mono ?_); rintro e w4 ⟨rfl, hb4⟩; have HB4 := Lib.hid (HBE.out.trans (hb4.mono HBE.out.size)); clear hb4 c0 c1 c2 c3)
            go_ret2
            exact SoOut.mk (by rw [HFS.out, if_pos HRN.out]) HB4.out
    · have HR : Hid (sortX (k + 1) (.mk op num tx args) = (0, ow)) := Lib.hid (by rw [← how, ← hn]; exact sortX_own (by rw [hn, how]; exact h0))
      have d0 : (ow != 0) = true := by rw [bne_iff_ne]; exact h0
      clear h0 how ih
      go_enter Tryz.func110, Tryz.ntmps110
      go_wp2_with (go_at_call 117; (with_reducible refine (HC.out _).mono ?_); rintro e w1 ⟨rfl, hb1⟩; have HB1 := Lib.hid (HB.out.trans (hb1.mono HB.out.size)); clear hb1 c0 c1 c2 c3)
      go_ret2
      exact SoOut.mk HR.out HB1.out
/-- What Expr gives: the sort, and the error. -/
theorem expr_any (op num : Int) (tx : ByteArray) (args : List Ex) (A : Option Addr) (d n c : Nat) (w : World) (hA : XA w d A args) (hn : args.length = n) (hc : n ≤ c) (hm : c ≤ maxLen) (ht : tx.size ≤ maxLen) :
    Calls Tryz.prog 81 #[.agg #[.int .i64 op, .int .i64 num, .string tx, .slice A n c]] w (SoOut 16 (.mk op num tx args) w) := by
  have HB := Lib.hid (below_one w (.cells #[.int .i64 op, .int .i64 num, .string tx, .slice A n c] 67))
  obtain ⟨c0, c1, c2, c3⟩ := four (Blk.new w 67 #[.int .i64 op, .int .i64 num, .string tx, .slice A n c])
  have HC := Lib.hid (sortAt_any 16 1 (by decide) (by decide) op num tx args A d n c _ (hA.below HB.out) hn hc hm ht)
  unfold SoOut at HC
  clear hA hn
  go_enter Tryz.func81, Tryz.ntmps81
  go_wp2_with (go_at_call 107; (with_reducible refine HC.out.mono ?_); rintro e w1 ⟨rfl, hb1⟩; have HB1 := Lib.hid (HB.out.trans (hb1.mono HB.out.size)); clear hb1 c0 c1 c2 c3)
  go_ret2
  exact ⟨rfl, HB1.out⟩
theorem refExpr_any (op num : Int) (tx : ByteArray) (args : List Ex) (A : Option Addr) (d n c : Nat) (w : World) (hA : XA w d A args) (hn : args.length = n) (hc : n ≤ c) (hm : c ≤ maxLen) (ht : tx.size ≤ maxLen) :
    Calls Tryz.prog 92 #[.agg #[.int .i64 op, .int .i64 num, .string tx, .slice A n c]] w (SoOut 16 (.mk op num tx args) w) := by
  have HB := Lib.hid (below_one w (.cells #[.int .i64 op, .int .i64 num, .string tx, .slice A n c] 67))
  obtain ⟨c0, c1, c2, c3⟩ := four (Blk.new w 67 #[.int .i64 op, .int .i64 num, .string tx, .slice A n c])
  have HC := Lib.hid (refAt_any 16 1 (by decide) (by decide) op num tx args A d n c _ (hA.below HB.out) hn hc hm ht)
  unfold SoOut at HC
  clear hA hn
  go_enter Tryz.func92, Tryz.ntmps92
  go_wp2_with (go_at_call 110; (with_reducible refine HC.out.mono ?_); rintro e w1 ⟨rfl, hb1⟩; have HB1 := Lib.hid (HB.out.trans (hb1.mono HB.out.size)); clear hb1 c0 c1 c2 c3)
  go_ret2
  exact ⟨rfl, HB1.out⟩
end Go.Proofs.YtpkmnefbofhjbaaGreat.Ck
