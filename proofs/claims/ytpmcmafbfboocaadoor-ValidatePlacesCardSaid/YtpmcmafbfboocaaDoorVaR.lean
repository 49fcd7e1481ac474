/- Walk: the reference's All. -/
import Derived.Test.YtpmcmafbfboocaaDoorVaN
namespace Go.Proofs.YtpmcmafbfboocaaDoor.Va
open Go.RowKit

abbrev No : Nat → Prop := fun _ => False
section
variable {w wr w1 : World} {P : List Rc} {J : List Rj} {v u v' u' : Value}
theorem TwoG.appV {r : Rc} (h : TwoG w No P J v u No wr) (g1 : w1.ownsRow w.heap.size 23 12 v' (P.length + 1) (recl P ++ recl [r])) (g2 : wr.grownBy w1 v.ownBlock) (g3 : v'.ownBlock = v.ownBlock ∨ v'.ownBlock = some wr.heap.size) : TwoG w No (P ++ [r]) J v' u No w1 where
  ov := by rw [recl_app, List.length_append]; exact g1
  ou := h.ou.kept g2 (by
    cases hu : u.ownBlock with
    | none => exact .inl rfl
    | some g => exact .inr (fun e => h.vu g e.symm hu))
  vu := fun g hg hu => by
    rcases g3 with g3 | g3
    · exact h.vu g (g3 ▸ hg) hu
    · rw [g3] at hg; injection hg with hg; have := (World.ownsRow.lt h.ou g hu).2; omega
  vF := fun _ _ hF => hF
  uF := fun _ _ hF => hF
  old := fun _ hb => hb.elim
  lt := fun _ hb => hb.elim
  ch := h.ch.grown g2 (fun q hq => (World.ownsRow.lt h.ov q hq).1)
theorem TwoG.appU {r : Rj} (h : TwoG w No P J v u No wr) (g1 : w1.ownsRow w.heap.size 44 4 u' (J.length + 1) (jcl J ++ jcl [r])) (g2 : wr.grownBy w1 u.ownBlock) (g3 : u'.ownBlock = u.ownBlock ∨ u'.ownBlock = some wr.heap.size) : TwoG w No P (J ++ [r]) v u' No w1 where
  ou := by rw [jcl_app, List.length_append]; exact g1
  ov := h.ov.kept g2 (by
    cases hv : v.ownBlock with
    | none => exact .inl rfl
    | some g => exact .inr (fun e => h.vu g hv e.symm))
  vu := fun g hg hu => by
    rcases g3 with g3 | g3
    · exact h.vu g hg (g3 ▸ hu)
    · rw [g3] at hu; injection hu with hu; have := (World.ownsRow.lt h.ov g hg).2; omega
  vF := fun _ _ hF => hF
  uF := fun _ _ hF => hF
  old := fun _ hb => hb.elim
  lt := fun _ hb => hb.elim
  ch := h.ch.grown g2 (fun q hq => (World.ownsRow.lt h.ou q hq).1)
theorem TwoG.below (h : TwoG w No P J v u No wr) (hb : Below wr.heap.size wr w1) : TwoG w No P J v u No w1 :=
  ⟨own_keep h.ov hb, own_keep h.ou hb, h.vu, h.vF, h.uF, h.old, fun _ hb => hb.elim, h.ch.trans (G := No) (chg_below hb) (fun _ _ h => h)⟩
end
theorem rejD_yes {D : List Rc} {E : Nat → Int} {k : Nat} (h : E k = 0) : rejD D E (k + 1) = rejD D E k := by unfold rejD; rw [rej_yes h]
theorem rejD_no {D : List Rc} {E : Nat → Int} {k : Nat} {r : Rc} (h : E k ≠ 0) (hr : D.getD k rc0 = r) : rejD D E (k + 1) = rejD D E k ++ [(r.s0, r.s1, (k : Int), E k)] := by
  unfold rejD; rw [rej_no h, List.map_append]
  subst hr
  simp
theorem rejD_len {D : List Rc} {E : Nat → Int} {k : Nat} : (rejD D E k).length ≤ k := by unfold rejD; rw [List.length_map]; exact rej_len
set_option maxRecDepth 100000 in
set_option maxHeartbeats 16000000 in
theorem refAll_any (A : Option Addr) (n c : Nat) (D : List Rc) (lo hi : Int) (w : World) (hD : ∀ r ∈ D, r.sa.size ≤ maxLen ∧ r.sb.size ≤ maxLen) (hA : RecR w A D) (hAl : ∀ a, A = some a → a.block < w.heap.size) (hn : D.length = n) (h6 : n ≤ 100000) (hc : n ≤ c) (hm : c ≤ maxLen) :
    Calls Tryd.prog 16 #[.slice A n c, .agg #[.int .i64 lo, .int .i64 hi]] w (AllOut w D (fun k => allE (D.getD k rc0) lo hi)) := by
  obtain ⟨i0, hi0, hz0, hz1, hz2⟩ := info_parts recInfo
  obtain ⟨k0, hk0, hy0, hy1, hy2⟩ := info_parts rejInfo
  obtain ⟨E, hE⟩ : ∃ E : Nat → Int, E = fun k => allE (D.getD k rc0) lo hi := ⟨_, rfl⟩
  rw [← hE]
  have HEE := Lib.hid hE
  unfold maxLen at hm
  have hb0 : Below w.heap.size w (w.alloc (.cells #[.int .i64 lo, .int .i64 hi] 25)) := (Below.refl _ w).alloc (Nat.le_refl _) _
  have HBK := Lib.hid (Blk.new w 25 #[.int .i64 lo, .int .i64 hi])
  have HB0 := Lib.hid hb0
  have HA := Lib.hid (hA.below hb0); have HN := Lib.hid hn; have HD := Lib.hid hD
  obtain ⟨g, hg⟩ : ∃ g, w.heap.size = g := ⟨_, rfl⟩
  obtain ⟨Wb, hWb⟩ : ∃ W, w.alloc (.cells #[.int .i64 lo, .int .i64 hi] 25) = W := ⟨_, rfl⟩
  have HSZ : Hid (Wb.heap.size = g + 1) := Lib.hid (by rw [← hWb, ← hg]; simp)
  rw [hWb] at HB0 HBK HA
  rw [hg] at HBK
  have HT0 : Hid (TwoG Wb No (pasN D E 0) (rejD D E 0) (.slice none 0 0) (.slice none 0 0) No Wb) := Lib.hid ⟨World.ownsRow_nil _ _ _ _, World.ownsRow_nil _ _ _ _, by simp [Value.ownBlock], fun _ _ h => h, fun _ _ h => h, fun _ h => h.elim, fun _ h => h.elim, Chg.refl _ _⟩
  clear hA hAl hn hD hb0 hE
  go_enter Tryd.func16, Tryd.ntmps16
  go_wp2_with fail
  go_loopw [6, 7, 8] (fun v u iv wr => ∃ k : Nat, iv = .int .i64 k ∧ k ≤ n ∧ Hid (TwoG Wb No (pasN D E k) (rejD D E k) v u No wr)) (fun _ _ iv _ => n - (intOf iv).toNat)
  case atStart => exact ⟨0, rfl, by omega, by first | exact HT0 | (rw [hWb]; exact HT0) | (simp only [hWb]; exact HT0)⟩
  case round =>
    obtain ⟨k, rfl, hk, HT⟩ := hrel
    clear hWb
    by_cases hlt : k < n
    · have hkl : k < D.length := by rw [HN.out]; exact hlt
      have hlt' : (k : Int) < (n : Int) := by omega
      have HKP : Hid ((pasN D E k).length ≤ k) := Lib.hid pas_len
      have HKJ : Hid ((rejD D E k).length ≤ k) := Lib.hid rejD_len
      have hbw : Below Wb.heap.size Wb wr := HT.out.ch.below
      have hm0 : D.getD k rc0 ∈ D := by rw [List.getD_eq_getElem?_getD, List.getElem?_eq_getElem hkl]; exact List.getElem_mem hkl
      obtain ⟨bk, off, rfl, hbl, hcs⟩ := (HA.out.below hbw) k hkl
      have HCK := Lib.hid (vRefCheck_any (D.getD k rc0) (HD.out _ hm0).1 (HD.out _ hm0).2)
      have HWN := Lib.hid (refWindow_any (D.getD k rc0) lo hi)
      have HEK : Hid (E k = allE (D.getD k rc0) lo hi) := Lib.hid (congrFun HEE.out k)
      obtain ⟨⟨s0, s1, s2, sa, sb, s5, s6, s7, s8, b9, s10, b11⟩, hp⟩ : ∃ r, D.getD k rc0 = r := ⟨_, rfl⟩
      have HP := Lib.hid hp
      rw [hp] at hcs HCK HWN HEK
      obtain ⟨e0, e1, e2, e3, e4, e5, e6, e7, e8, e9, e10, e11⟩ := hcs.all
      simp only at e0 e1 e2 e3 e4 e5 e6 e7 e8 e9 e10 e11
      simp only [Rc.cells] at HCK HWN
      obtain ⟨x, hx⟩ : ∃ x, chkR ⟨s0, s1, s2, sa, sb, s5, s6, s7, s8, b9, s10, b11⟩ = x := ⟨_, rfl⟩
      obtain ⟨y, hy⟩ : ∃ y, winE ⟨s0, s1, s2, sa, sb, s5, s6, s7, s8, b9, s10, b11⟩ lo hi = y := ⟨_, rfl⟩
      rw [hx] at HCK
      rw [hy] at HWN
      unfold allE at HEK
      rw [hx, hy] at HEK
      have HBY : Hid (RcB (wr.alloc (.cells #[.int .i64 s0, .int .i64 s1, .int .i64 s2, .string sa, .string sb, .int .i64 s5, .int .i64 s6, .int .i64 s7, .int .i64 s8, .bool b9, .int .i64 s10, .bool b11] 23)) wr.heap.size ⟨s0, s1, s2, sa, sb, s5, s6, s7, s8, b9, s10, b11⟩) := Lib.hid (heap_alloc_new wr _)
      have HTY := Lib.hid (HT.out.alloc (.cells #[.int .i64 s0, .int .i64 s1, .int .i64 s2, .string sa, .string sb, .int .i64 s5, .int .i64 s6, .int .i64 s7, .int .i64 s8, .bool b9, .int .i64 s10, .bool b11] 23))
      have HQY := Lib.hid ((HBK.out.below hbw HBK.out.lt).alloc (.cells #[.int .i64 s0, .int .i64 s1, .int .i64 s2, .string sa, .string sb, .int .i64 s5, .int .i64 s6, .int .i64 s7, .int .i64 s8, .bool b9, .int .i64 s10, .bool b11] 23))
      obtain ⟨R, hR⟩ : ∃ R, wr.heap.size = R := ⟨_, rfl⟩
      obtain ⟨Wy, hWy⟩ : ∃ W, wr.alloc (.cells #[.int .i64 s0, .int .i64 s1, .int .i64 s2, .string sa, .string sb, .int .i64 s5, .int .i64 s6, .int .i64 s7, .int .i64 s8, .bool b9, .int .i64 s10, .bool b11] 23) = W := ⟨_, rfl⟩
      rw [hWy] at HBY HTY HQY
      rw [hR] at HBY
      have HBL : Hid (R < Wy.heap.size) := Lib.hid (by rw [← hWy, ← hR]; simp)
      obtain ⟨c0, c1, c2, c3, c4, c5, c6, c7, c8, c9, c10, c11⟩ := HBY.out.cells
      simp only at c0 c1 c2 c3 c4 c5 c6 c7 c8 c9 c10 c11
      clear hkl hbw hm0 hcs hp hx hy
      by_cases hx0 : x = 0
      · subst hx0
        have HE2 : Hid (E k = y) := Lib.hid (by rw [HEK.out, if_neg (by simp)])
        by_cases hy00 : y = 0
        · subst hy00
          go_wp2_with (first
            | (go_at_call 11; (with_reducible refine (HCK.out _).mono ?_); rintro e w1 ⟨rfl, hb1⟩; have HX1 := Lib.hid (HBY.out.below hb1 HBL.out); have HT1 := Lib.hid (HTY.out.below hb1); have HQ1 := Lib.hid (HQY.out.below hb1 HQY.out.lt); have HL1 := Lib.hid (Nat.lt_of_lt_of_le HBL.out hb1.size); clear e0 e1 e2 e3 e4 e5 e6 e7 e8 e9 e10 e11 c0 c1 c2 c3 c4 c5 c6 c7 c8 c9 c10 c11; obtain ⟨c0, c1, c2, c3, c4, c5, c6, c7, c8, c9, c10, c11⟩ := HX1.out.cells; simp only at c0 c1 c2 c3 c4 c5 c6 c7 c8 c9 c10 c11; obtain ⟨q0, q1⟩ := HQ1.out.two; clear hb1)
            | (go_at_call 13; (with_reducible refine (HWN.out _).mono ?_); rintro e w2 ⟨rfl, hb2⟩; have HX2 := Lib.hid (HX1.out.below hb2 HL1.out); have HT2 := Lib.hid (HT1.out.below hb2); clear c0 c1 c2 c3 c4 c5 c6 c7 c8 c9 c10 c11 q0 q1; obtain ⟨c0, c1, c2, c3, c4, c5, c6, c7, c8, c9, c10, c11⟩ := HX2.out.cells; simp only at c0 c1 c2 c3 c4 c5 c6 c7 c8 c9 c10 c11; clear hb2)
            | (at_builtin; refine wpList_append_own_at _ rfl (.tmp 30) (.tmp 32) 32 rfl Wb.heap.size 23 i0 _ 12 112 Tryd.underlying32 hi0 hz0 hz1 hz2 rfl (by decide) _ _ (recl (pasN D E k)) rfl (HT2.out.alloc _).ov ⟨w2.heap.size, 0, none⟩ 1 1 (recl [D.getD k rc0]) rfl (by rw [recl_len]; rfl) (by rw [HP.out]; exact Blk.srcR (r := ⟨s0, s1, s2, sa, sb, s5, s6, s7, s8, b9, s10, b11⟩) (Blk.new w2 23 #[.int .i64 s0, .int .i64 s1, .int .i64 s2, .string sa, .string sb, .int .i64 s5, .int .i64 s6, .int .i64 s7, .int .i64 s8, .bool b9, .int .i64 s10, .bool b11])) (recl_one _) (by have := HKP.out; unfold maxLen; omega) (by have := HKP.out; omega) ((HT2.out.alloc _).ch.size) ?_; intro v4 w4 g1 g2 _ g3; have HT4 := Lib.hid ((HT2.out.alloc _).appV g1 g2 g3); clear g1 g2 g3))
          go_roundw
          case rel => exact ⟨k + 1, by go_num, by omega, Lib.hid (by rw [pas_yes HE2.out, rejD_yes HE2.out]; exact HT4.out)⟩
          case measure => simp [intOf]; omega
        · have hyq : (y == 0) = false := by simp [hy00]
          have HNE := Lib.hid hy00
          clear hy00
          go_wp2_with (first
            | (go_at_call 11; (with_reducible refine (HCK.out _).mono ?_); rintro e w1 ⟨rfl, hb1⟩; have HX1 := Lib.hid (HBY.out.below hb1 HBL.out); have HT1 := Lib.hid (HTY.out.below hb1); have HQ1 := Lib.hid (HQY.out.below hb1 HQY.out.lt); have HL1 := Lib.hid (Nat.lt_of_lt_of_le HBL.out hb1.size); clear e0 e1 e2 e3 e4 e5 e6 e7 e8 e9 e10 e11 c0 c1 c2 c3 c4 c5 c6 c7 c8 c9 c10 c11; obtain ⟨c0, c1, c2, c3, c4, c5, c6, c7, c8, c9, c10, c11⟩ := HX1.out.cells; simp only at c0 c1 c2 c3 c4 c5 c6 c7 c8 c9 c10 c11; obtain ⟨q0, q1⟩ := HQ1.out.two; clear hb1)
            | (go_at_call 13; (with_reducible refine (HWN.out _).mono ?_); rintro e w2 ⟨rfl, hb2⟩; have HX2 := Lib.hid (HX1.out.below hb2 HL1.out); have HT2 := Lib.hid (HT1.out.below hb2); clear c0 c1 c2 c3 c4 c5 c6 c7 c8 c9 c10 c11 q0 q1; obtain ⟨c0, c1, c2, c3, c4, c5, c6, c7, c8, c9, c10, c11⟩ := HX2.out.cells; simp only at c0 c1 c2 c3 c4 c5 c6 c7 c8 c9 c10 c11; clear hb2)
            | (at_builtin; refine wpList_append_own_at _ rfl (.tmp 34) (.tmp 42) 34 rfl Wb.heap.size 44 k0 _ 4 32 Tryd.underlying34 hk0 hy0 hy1 hy2 rfl (by decide) _ _ (jcl (rejD D E k)) rfl (HT2.out.alloc _).ou ⟨w2.heap.size, 0, none⟩ 1 1 (jcl [(s0, s1, (k : Int), y)]) rfl (by rw [jcl_len]; rfl) (Blk.srcJ (r := (s0, s1, (k : Int), y)) (Blk.new w2 44 #[.int .i64 s0, .int .i64 s1, .int .i64 k, .int .i64 y])) (jcl_one _) (by have := HKJ.out; unfold maxLen; omega) (by have := HKJ.out; omega) ((HT2.out.alloc _).ch.size) ?_; intro v4 w4 g1 g2 _ g3; have HT4 := Lib.hid ((HT2.out.alloc _).appU (r := (s0, s1, (k : Int), y)) g1 g2 g3); clear g1 g2 g3))
          go_roundw
          case rel => exact ⟨k + 1, by go_num, by omega, Lib.hid (by rw [pas_no (by rw [HE2.out]; exact HNE.out), rejD_no (by rw [HE2.out]; exact HNE.out) HP.out, HE2.out]; exact HT4.out)⟩
          case measure => simp [intOf]; omega
      · have hxq : (x == 0) = false := by simp [hx0]
        have HE2 : Hid (E k = x) := Lib.hid (by rw [HEK.out, if_pos hx0])
        have HNE := Lib.hid hx0
        clear hx0
        go_wp2_with (first
          | (go_at_call 11; (with_reducible refine (HCK.out _).mono ?_); rintro e w1 ⟨rfl, hb1⟩; have HX1 := Lib.hid (HBY.out.below hb1 HBL.out); have HT1 := Lib.hid (HTY.out.below hb1); have HQ1 := Lib.hid (HQY.out.below hb1 HQY.out.lt); have HL1 := Lib.hid (Nat.lt_of_lt_of_le HBL.out hb1.size); clear e0 e1 e2 e3 e4 e5 e6 e7 e8 e9 e10 e11 c0 c1 c2 c3 c4 c5 c6 c7 c8 c9 c10 c11; obtain ⟨c0, c1, c2, c3, c4, c5, c6, c7, c8, c9, c10, c11⟩ := HX1.out.cells; simp only at c0 c1 c2 c3 c4 c5 c6 c7 c8 c9 c10 c11; obtain ⟨q0, q1⟩ := HQ1.out.two; clear hb1)
          | (at_builtin; refine wpList_append_own_at _ rfl (.tmp 34) (.tmp 42) 34 rfl Wb.heap.size 44 k0 _ 4 32 Tryd.underlying34 hk0 hy0 hy1 hy2 rfl (by decide) _ _ (jcl (rejD D E k)) rfl (HT1.out.alloc _).ou ⟨w1.heap.size, 0, none⟩ 1 1 (jcl [(s0, s1, (k : Int), x)]) rfl (by rw [jcl_len]; rfl) (Blk.srcJ (r := (s0, s1, (k : Int), x)) (Blk.new w1 44 #[.int .i64 s0, .int .i64 s1, .int .i64 k, .int .i64 x])) (jcl_one _) (by have := HKJ.out; unfold maxLen; omega) (by have := HKJ.out; omega) ((HT1.out.alloc _).ch.size) ?_; intro v4 w4 g1 g2 _ g3; have HT4 := Lib.hid ((HT1.out.alloc _).appU (r := (s0, s1, (k : Int), x)) g1 g2 g3); clear g1 g2 g3))
        go_roundw
        case rel => exact ⟨k + 1, by go_num, by omega, Lib.hid (by rw [pas_no (by rw [HE2.out]; exact HNE.out), rejD_no (by rw [HE2.out]; exact HNE.out) HP.out, HE2.out]; exact HT4.out)⟩
        case measure => simp [intOf]; omega
    · obtain rfl : k = n := by omega
      go_wp2_with fail
      go_ret2
      have h := HT.out
      rw [← HN.out] at h
      exact ⟨_, _, rfl, own_mono h.ov HB0.out.size, own_mono h.ou HB0.out.size, HB0.out.trans (h.ch.below.mono HB0.out.size)⟩
end Go.Proofs.YtpmcmafbfboocaaDoor.Va
