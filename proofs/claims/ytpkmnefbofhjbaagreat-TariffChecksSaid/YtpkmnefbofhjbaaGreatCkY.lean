/- Walk: sortAt. -/
import Derived.Test.YtpkmnefbofhjbaaGreatCkX
namespace Go.Proofs.YtpkmnefbofhjbaaGreat.Ck
open Go Go.Lib Go.RowKit Go.Proofs.YtpkmnefbofhjbaaGreat Go.Maps

theorem src1 {w : World} {t : TypeId} {x : Value} : ∀ j u, [x][j]? = some u → (w.alloc (.cells #[x] t)).cell? ((⟨w.heap.size, 0, none⟩ : Addr).add j) = some u := by
  intro j u h
  match j with
  | 0 =>
    rw [add_none]
    have : some x = some u := h
    rw [← this]
    exact (Blk.new w t #[x]).cell 0
  | j + 1 => exact absurd h (by simp)
theorem Acc.stop {f : Ex → Int × Int} {args : List Ex} {base j : Nat} {v : Value} {w : World} (h : Acc f args base j v w) (hj : j < args.length) {e : Ex} (he : args[j]? = some e) {s x : Int} (hf : f e = (s, x)) (hx : x ≠ 0) : (sorts f args).2 = x := by
  obtain ⟨acc, -, -, h⟩ := h
  rw [h, sorts_drop hj he, hf, if_neg hx]
theorem Acc.next {f : Ex → Int × Int} {args : List Ex} {base j : Nat} {v' : Value} {w' : World} {acc : List Int} (h : sorts f args = (acc ++ (sorts f (args.drop j)).1, (sorts f (args.drop j)).2)) (hl : acc.length = j) (hj : j < args.length) {e : Ex} (he : args[j]? = some e) {s : Int} (hf : f e = (s, 0))
    (ho : w'.ownsRow base 3 1 v' (j + 1) (acc.map (Value.int .i64) ++ [.int .i64 s])) : Acc f args base (j + 1) v' w' := by
  refine ⟨acc ++ [s], by rw [List.map_append]; exact ho, by rw [List.length_append, hl]; rfl, ?_⟩
  rw [h, sorts_drop hj he, hf, if_pos rfl]
  simp
theorem Acc.done {f : Ex → Int × Int} {args : List Ex} {base n : Nat} {v : Value} {w : World} (h : Acc f args base n v w) (hn : args.length = n) : ∃ acc B c, v = .slice B n c ∧ n ≤ c ∧ c ≤ maxLen ∧ IR w B acc ∧ acc.length = n ∧ (sorts f args).1 = acc ∧ (sorts f args).2 = 0 := by
  obtain ⟨acc, h1, h2, h3⟩ := h
  obtain ⟨B, c, e, h4, h5, h6⟩ := ir_own h1 h2
  rw [List.drop_eq_nil_of_le (by omega)] at h3
  exact ⟨acc, B, c, e, h4, h5, h6, h2, by rw [h3]; exact List.append_nil _, by rw [h3]; rfl⟩
set_option maxRecDepth 100000 in
set_option maxHeartbeats 32000000 in
theorem sortAt_any : ∀ (k : Nat) (z : Int) (_ : z + k = 17) (_ : 0 ≤ z) (op num : Int) (tx : ByteArray) (args : List Ex) (A : Option Addr) (d n c : Nat) (w : World), XA w d A args → args.length = n → n ≤ c → c ≤ maxLen → tx.size ≤ maxLen →
    Calls Tryz.prog 107 #[.agg #[.int .i64 op, .int .i64 num, .string tx, .slice A n c], .int .i64 z] w (SoOut k (.mk op num tx args) w) := by
  intro k
  induction k with
  | zero =>
    intro z hz hz0 op num tx args A d n c w hA hn hc hm ht
    obtain rfl : z = 17 := by omega
    have HC := Lib.hid (fun W => checkFields_is (lv := 17) (op := op) (num := num) (tx := tx) (n := n) (v := 24) (by unfold cfE; rw [if_pos (by decide)]) A c W hc hm ht)
    have HB := Lib.hid (below_one w (.cells #[.int .i64 op, .int .i64 num, .string tx, .slice A n c] 67))
    obtain ⟨c0, c1, c2, c3⟩ := four (Blk.new w 67 #[.int .i64 op, .int .i64 num, .string tx, .slice A n c])
    have HR : Hid (sortX 0 (.mk op num tx args) = (0, 24)) := Lib.hid rfl
    clear hA hn hz
    go_enter Tryz.func107, Tryz.ntmps107
    go_wp2_with (go_at_call 113; (with_reducible refine (HC.out _).mono ?_); rintro e w1 ⟨rfl, hb1⟩; have HB1 := Lib.hid (HB.out.trans (hb1.mono HB.out.size)); clear hb1 c0 c1 c2 c3)
    go_ret2
    exact SoOut.mk HR.out HB1.out
  | succ k ih =>
    intro z hz hz0 op num tx args A d n c w hA hn hc hm ht
    have hz1 : z ≤ 16 := by omega
    obtain ⟨ow, how⟩ : ∃ o, ownE op num tx n = o := ⟨_, rfl⟩
    have HC := Lib.hid (fun W => checkFields_is (lv := z) (op := op) (num := num) (tx := tx) (n := n) (v := ow) (by unfold cfE; rw [if_neg (by omega), how]) A c W hc hm ht)
    obtain ⟨W1, hW1⟩ : ∃ W, w.alloc (.cells #[.int .i64 op, .int .i64 num, .string tx, .slice A n c] 67) = W := ⟨_, rfl⟩
    obtain ⟨g, hg⟩ : ∃ g, w.heap.size = g := ⟨_, rfl⟩
    have hbk : Blk W1 g 67 #[.int .i64 op, .int .i64 num, .string tx, .slice A n c] := hW1 ▸ hg ▸ Blk.new w _ _
    have HB := Lib.hid (show Below w.heap.size w W1 from hW1 ▸ below_one w _)
    have HBK := Lib.hid hbk
    obtain ⟨c0, c1, c2, c3⟩ := four hbk
    clear hbk
    by_cases h0 : ow = 0
    · subst h0
      obtain ⟨f, hf⟩ : ∃ f, sortX k = f := ⟨_, rfl⟩
      have HIH : Hid (∀ (o m : Int) (t : ByteArray) (us : List Ex) (A' : Option Addr) (d' n' c' : Nat) (W : World) (s v : Int), XA W d' A' us → us.length = n' → n' ≤ c' → c' ≤ maxLen → t.size ≤ maxLen → f (.mk o m t us) = (s, v) →
          Calls Tryz.prog 107 #[.agg #[.int .i64 o, .int .i64 m, .string t, .slice A' n' c'], .int .i64 (z + 1)] W fun e w' => e = .returned (.tuple #[.int .i64 s, .int .i64 v]) ∧ Below W.heap.size W w') := Lib.hid (fun o m t us A' d' n' c' W s v h1 h2 h3 h4 h5 h6 => by
        have := ih (z + 1) (by omega) (by omega) o m t us A' d' n' c' W h1 h2 h3 h4 h5
        unfold SoOut at this
        rw [hf, h6] at this
        exact this)
      have HOW := Lib.hid how
      have HN := Lib.hid hn
      have HM : Hid (n ≤ 2) := Lib.hid (by
        have h := own_len (n := n) how
        unfold arity at h
        (repeat' split at h) <;> omega)
      have HGS := Lib.hid hg
      have HXO : Hid (sortX (k + 1) (.mk op num tx args) = if (sorts f args).2 = 0 then finE op tx (sorts f args).1 else (0, (sorts f args).2)) := Lib.hid (by
        rw [sortX, hf, if_pos (by rw [hn]; exact how)])
      have HSO : Hid (∀ s ∈ (sorts f args).1, isSort s) := Lib.hid (by rw [← hf]; exact sorts_mem (fun e _ he => sortX_sort he))
      have HSL : Hid ((sorts f args).2 = 0 → (sorts f args).1.length = n) := Lib.hid (fun h => by rw [sorts_len h, hn])
      obtain ⟨i0, hi0, hz0', hz1', hz2'⟩ := info_parts intInfo
      clear ih hf how hn
      go_enter Tryz.func107, Tryz.ntmps107
      go_upto_region 6 with (go_at_call 113; (with_reducible refine (HC.out _).mono ?_); rintro e w1 ⟨rfl, hb1⟩; have HB1 := Lib.hid (HB.out.trans (hb1.mono HB.out.size)); have HBK1 := Lib.hid (HBK.out.below hb1 HBK.out.lt); clear hb1 c0 c1 c2 c3; obtain ⟨c0, c1, c2, c3⟩ := four HBK1.out)
      go_wp2_with fail
      have HA1 := Lib.hid (hA.below HB1.out)
      clear c0 c1 c2 c3 hA HC
      go_loopw [7, 23] (fun v iv wr => ∃ j : Nat, iv = .int .i64 j ∧ j ≤ n ∧ Below w1.heap.size w1 wr ∧ Hid (Acc f args w1.heap.size j v wr)) (fun _ iv _ => n - (RowKit.intOf iv).toNat)
      case atStart => exact ⟨0, rfl, by omega, Below.refl _ _, Lib.hid (Acc.zero _ _ _ _)⟩
      case round =>
        obtain ⟨j, rfl, hj, hb, HAC⟩ := hrel
        have hs := hb.size
        by_cases hlt : j < n
        · have hlt' : (j : Int) < (n : Int) := by omega
          have hj2 : j ≤ 1 := by have := HM.out; omega
          have hjl : j < args.length := by rw [HN.out]; exact hlt
          obtain ⟨b, off, o, m, t, us, A', c', rfl, hbl, hei, g0, g1, g2, g3, u1, u2, u3, hX⟩ := HA1.out.at hjl
          have e0 := (hb.cell (p := ⟨b, off + j * 4, none⟩) hbl).trans g0
          have e1 := (hb.cell (p := ⟨b, off + j * 4 + 1, none⟩) hbl).trans g1
          have e2 := (hb.cell (p := ⟨b, off + j * 4 + 2, none⟩) hbl).trans g2
          have e3 := (hb.cell (p := ⟨b, off + j * 4 + 3, none⟩) hbl).trans g3
          obtain ⟨nu, hnu⟩ : ∃ x, us.length = x := ⟨_, rfl⟩
          rw [hnu] at e3 u1
          obtain ⟨W, hW⟩ : ∃ W, wr.alloc (.cells #[.int .i64 o, .int .i64 m, .string t, .slice A' nu c'] 67) = W := ⟨_, rfl⟩
          obtain ⟨q, hq⟩ : ∃ q, wr.heap.size = q := ⟨_, rfl⟩
          have hbw : Below w1.heap.size w1 W := hW ▸ hb.alloc hs _
          obtain ⟨k0, k1, k2, k3⟩ := four (hW ▸ hq ▸ Blk.new wr _ _ : Blk W q 67 #[.int .i64 o, .int .i64 m, .string t, .slice A' nu c'])
          obtain ⟨sv, hsv⟩ : ∃ x, f (.mk o m t us) = x := ⟨_, rfl⟩
          obtain ⟨s, v⟩ := sv
          have HCL := Lib.hid (HIH.out o m t us A' (d - 1) nu c' W s v (hX.below hbw) hnu u1 u2 u3 hsv)
          have HBW := Lib.hid hbw
          have HAW : Hid (Acc f args w1.heap.size j _ W) := Lib.hid (HAC.out.keep (hW ▸ below_one wr _))
          have HEI := Lib.hid hei; have HSV := Lib.hid hsv; have HJL := Lib.hid hjl
          clear g0 g1 g2 g3 u1 u2 u3 hX hnu hbw hei hsv hjl hbl HAC
          by_cases h0 : v = 0
          · subst h0
            go_wp2_with (first
              | (go_at_call 107; (with_reducible refine HCL.out.mono ?_); rintro e w3 ⟨rfl, hb3⟩; have HB3 := Lib.hid (HBW.out.trans (hb3.mono HBW.out.size)); have HA3 := Lib.hid (HAW.out.keep hb3); obtain ⟨acc, a1, a2, a3⟩ := HA3.out; have HA1' := Lib.hid a1; have HA23 := Lib.hid (show _ ∧ _ from ⟨a2, a3⟩); clear a1 a2 a3 hb3 k0 k1 k2 k3 hW hq e0 e1 e2 e3)
              | (at_builtin; refine wpList_append_own_at _ rfl (.tmp 37) (.tmp 39) 41 rfl w1.heap.size 3 i0 _ 1 8 Tryz.underlying41 hi0 hz0' hz1' hz2' rfl (by decide) _ _ (acc.map (Value.int .i64)) rfl (HA1'.out.alloc _) ⟨w3.heap.size, 0, none⟩ 1 1 [.int .i64 s] rfl rfl src1 (by simp [Value.oneCell']) (by have := HM.out; unfold maxLen; omega) (by have := HM.out; omega) (by have := HB3.out.size; simp; omega) ?_; intro v4 w4 g1 g2 _ g3; have HA4 := Lib.hid (Acc.next HA23.out.2 HA23.out.1 HJL.out HEI.out HSV.out g1); have HB4 := Lib.hid (Zn.below_grown (HB3.out.alloc HB3.out.size _) g2 (fun j hj => (World.ownsRow.lt HA1'.out j hj).1) (by have := HB3.out.size; simp; omega)); clear g1 g2 g3))
            go_roundw
            case rel => exact ⟨j + 1, by go_num, by omega, HB4.out, HA4⟩
            case measure => simp [RowKit.intOf]; omega
          · have d0 : (v != 0) = true := by rw [bne_iff_ne]; exact h0
            have HR : Hid (sortX (k + 1) (.mk op num tx args) = (0, v)) := Lib.hid (by
              have h2 := HAW.out.stop HJL.out HEI.out HSV.out h0
              rw [HXO.out, h2, if_neg h0])
            clear h0
            go_wp2_with (go_at_call 107; (with_reducible refine HCL.out.mono ?_); rintro e w3 ⟨rfl, hb3⟩; have HB3 := Lib.hid (HB1.out.trans ((HBW.out.trans (hb3.mono HBW.out.size)).mono HB1.out.size)); clear hb3 k0 k1 k2 k3 hW hq)
            go_ret2
            exact SoOut.mk HR.out HB3.out
        · obtain rfl : j = n := by omega
          have hd : decide ((j : Int) < (j : Int)) = false := decide_eq_false (by omega)
          obtain ⟨acc, B, cB, rfl, q1, q2, q3, q4, q5, q6⟩ := HAC.out.done HN.out
          have HQ := Lib.hid (show IR wr B acc ∧ acc.length = j ∧ j ≤ cB ∧ cB ≤ maxLen from ⟨q3, q4, q1, q2⟩)
          have hla : (acc.length : Int) = arity op := by rw [q4]; exact own_len HOW.out
          have HFS : Hid (finS op tx acc = sortX (k + 1) (.mk op num tx args)) := Lib.hid (by
            rw [HXO.out, q6, if_pos rfl, q5]
            exact fin_same HOW.out q4 (by rw [← q5]; exact HSO.out))
          have HSG := Lib.hid (signature_any op num tx A j c B j cB acc wr q4 hla q3 q1)
          obtain ⟨sg, hsg⟩ : ∃ x, sigE op tx acc = x := ⟨_, rfl⟩
          rw [hsg] at HSG
          obtain ⟨r, sr⟩ := sg
          obtain ⟨vv, hvv⟩ : ∃ v, (acc.any fun s => decide (s ≠ r)) = v := ⟨_, rfl⟩
          have HFV : Hid (finS op tx acc = if vv = true then (0, 7) else (sr, 0)) := Lib.hid (by unfold finS; rw [hsg, hvv])
          have HVV := Lib.hid hvv
          obtain ⟨c0, c1, c2, c3⟩ := four (HBK1.out.below hb HBK1.out.lt)
          have HBE := Lib.hid (HB1.out.trans (hb.mono HB1.out.size))
          clear q1 q2 q3 q4 q5 q6 hla hsg hvv HAC
          cases vv
          · go_wp2_with (first
              | (go_at_call 114; (with_reducible refine HSG.out.mono ?_); rintro e w4 ⟨rfl, hb4⟩; have HB4 := Lib.hid hb4; have HB5 : Hid (Below wr.heap.size wr (w4.alloc (.cells #[.int .i64 r] 3))) := Lib.hid (hb4.alloc hb4.size _); have HCT := Lib.hid (containsI_is B j cB acc r w4.heap.size (w4.alloc (.cells #[.int .i64 r] 3)) (HQ.out.1.below HB5.out) HQ.out.2.1 HQ.out.2.2.1 HQ.out.2.2.2 (Blk.new w4 _ _) _ HVV.out); clear hb4 c0 c1 c2 c3)
              | (go_at_call 115; (with_reducible refine HCT.out.mono ?_); rintro e w6 ⟨rfl, rfl⟩))
            go_ret2
            exact SoOut.mk (by rw [← HFS.out, HFV.out] <;> rfl) (HBE.out.trans (HB5.out.mono HBE.out.size))
          · go_wp2_with (first
              | (go_at_call 114; (with_reducible refine HSG.out.mono ?_); rintro e w4 ⟨rfl, hb4⟩; have HB4 := Lib.hid hb4; have HB5 : Hid (Below wr.heap.size wr (w4.alloc (.cells #[.int .i64 r] 3))) := Lib.hid (hb4.alloc hb4.size _); have HCT := Lib.hid (containsI_is B j cB acc r w4.heap.size (w4.alloc (.cells #[.int .i64 r] 3)) (HQ.out.1.below HB5.out) HQ.out.2.1 HQ.out.2.2.1 HQ.out.2.2.2 (Blk.new w4 _ _) _ HVV.out); clear hb4 c0 c1 c2 c3)
              | (go_at_call 115; (with_reducible refine HCT.out.mono ?_); rintro e w6 ⟨rfl, rfl⟩))
            go_ret2
            exact SoOut.mk (by rw [← HFS.out, HFV.out] <;> rfl) (HBE.out.trans (HB5.out.mono HBE.out.size))
    · have HR : Hid (sortX (k + 1) (.mk op num tx args) = (0, ow)) := Lib.hid (by rw [← how, ← hn]; exact sortX_own (by rw [hn, how]; exact h0))
      have d0 : (ow != 0) = true := by rw [bne_iff_ne]; exact h0
      clear h0 how ih
      go_enter Tryz.func107, Tryz.ntmps107
      go_wp2_with (go_at_call 113; (with_reducible refine (HC.out _).mono ?_); rintro e w1 ⟨rfl, hb1⟩; have HB1 := Lib.hid (HB.out.trans (hb1.mono HB.out.size)); clear hb1 c0 c1 c2 c3)
      go_ret2
      exact SoOut.mk HR.out HB1.out
end Go.Proofs.YtpkmnefbofhjbaaGreat.Ck
