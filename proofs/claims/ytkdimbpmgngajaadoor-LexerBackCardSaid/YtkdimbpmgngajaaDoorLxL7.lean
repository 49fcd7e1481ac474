/- Walk of the law that tokens are recovered from their text. -/
import Derived.Test.YtkdimbpmgngajaaDoorLxBm
namespace Go.Proofs.YtkdimbpmgngajaaDoor
open Go Go.Lib Go.RowKit Lx Go.Maps

set_option maxRecDepth 100000 in
set_option maxHeartbeats 32000000 in
theorem walkLexerBack (A : Option Addr) (len cap : Nat) (l : List TI) (w : World) (hA : TsI w A l) (hl : l.length = len) (hc : len ≤ cap) (hm : cap ≤ maxLen) (hx : ∀ t ∈ l, t.x.size ≤ 140737488351232) :
    Calls Tryd.prog 4 #[.slice A len cap] w fun e w' => e = .returned (.bool true) ∧ Below w.heap.size w w' := by
  unfold maxLen at hm
  by_cases hbig : 60 < len
  · have d1 : decide ((60 : Int) < (len : Int)) = true := decide_eq_true (by omega)
    clear hA hl hx hbig
    go_enter Tryd.func4, Tryd.ntmps4
    go_wp2_with (go_at_call 9; (with_reducible refine (awake_any _).mono ?_); rintro e w6 ⟨rfl, hb6⟩)
    go_ret
    exact ⟨rfl, hb6⟩
  · have d1 : decide ((60 : Int) < (len : Int)) = false := decide_eq_false (by omega)
    have hlen : len ≤ 60 := by omega
    obtain ⟨i0, hi0, hz0, hz1, hz2⟩ := info_parts tkInfo
    have HA := Lib.hid hA; have HL := Lib.hid hl; have HX := Lib.hid hx
    clear hbig hA hl hx
    go_enter Tryd.func4, Tryd.ntmps4
    go_wp2_with fail
    go_loopw [5, 3, 4] (fun iv sv ov wr => ∃ (i : Nat) (S : ByteArray) (V : Value) (D : List Tk), iv = .int .i64 i ∧ sv = .string S ∧ V = ov ∧ i ≤ len ∧ Hid (wr.ownsRow w.heap.size 30 4 V i (tkl S.size D)) ∧ Hid (D.length = i) ∧ Hid (Below w.heap.size w wr) ∧ Hid (∀ t, scn (S.data.toList ++ t) = puts (D.map (shf t.length)) (scn t)) ∧ S.size ≤ i * 203) (fun iv _ _ _ => len - (RowKit.intOf iv).toNat)
    case atStart => exact ⟨0, ⟨#[]⟩, _, [], rfl, rfl, rfl, by omega, Lib.hid (World.ownsRow_nil _ _ _ _), Lib.hid rfl, Lib.hid (Below.refl _ _), Lib.hid (fun t => by rw [List.map_nil, puts_nil]; rfl), by decide⟩
    case round =>
      obtain ⟨i, S, V, D, rfl, rfl, rfl, hi, HO, HN, HB, HV, hS9⟩ := hrel
      by_cases hil : i < len
      · have hil' : (i : Int) < (len : Int) := by omega
        have hi0' : (0 : Int) ≤ (i : Int) := by omega
        have hill : i < l.length := by rw [HL.out]; exact hil
        obtain ⟨b, off, rfl, hbl, hcell⟩ := HA.out i hill
        have hxi : (l.getD i ti0).x.size ≤ 140737488351232 := HX.out _ (by rw [List.getD_eq_getElem?_getD, List.getElem?_eq_getElem hill]; exact List.getElem_mem _)
        obtain ⟨t, ht⟩ : ∃ t, l.getD i ti0 = t := ⟨_, rfl⟩
        rw [ht] at hcell hxi
        obtain ⟨k, v0, q, X⟩ := t
        have a0 : wr.cell? ⟨b, off + i * 4, none⟩ = some (.int .i64 k) := (HB.out.cell (p := ⟨b, off + i * 4, none⟩) hbl).trans (hcell 0 (by decide))
        have a1 : wr.cell? ⟨b, off + i * 4 + 1, none⟩ = some (.int .i64 v0) := (HB.out.cell (p := ⟨b, off + i * 4 + 1, none⟩) hbl).trans (by rw [Nat.add_assoc]; exact hcell 1 (by decide))
        have a2 : wr.cell? ⟨b, off + i * 4 + 2, none⟩ = some (.int .i64 q) := (HB.out.cell (p := ⟨b, off + i * 4 + 2, none⟩) hbl).trans (by rw [Nat.add_assoc]; exact hcell 2 (by decide))
        have a3 : wr.cell? ⟨b, off + i * 4 + 3, none⟩ = some (.string X) := (HB.out.cell (p := ⟨b, off + i * 4 + 3, none⟩) hbl).trans (by rw [Nat.add_assoc]; exact hcell 3 (by decide))
        have hxi : X.size ≤ 140737488351232 := hxi
        have HPR := Lib.hid (fun W => refProper_any k v0 q X W hxi)
        clear hcell ht hill
        go_upto_region 9 with fail
        have hT4 : TkB (wr.alloc (.cells #[.int .i64 k, .int .i64 v0, .int .i64 q, .string X] 30)) wr.heap.size k v0 q X := TkB.new wr _ _ _ _
        have HT4 := Lib.hid hT4
        have HB4 := Lib.hid (HB.out.trans ((below_one wr (.cells #[.int .i64 k, .int .i64 v0, .int .i64 q, .string X] 30)).mono HB.out.size))
        have HO4 := Lib.hid (HO.out.alloc (.cells #[.int .i64 k, .int .i64 v0, .int .i64 q, .string X] 30))
        have HNE : Hid (∀ a, V.ownBlock = some a → a ≠ wr.heap.size) := Lib.hid (fun a ha => Nat.ne_of_lt (World.ownsRow.lt HO.out a ha).2)
        have HH : Hid (w.heap.size ≤ wr.heap.size) := Lib.hid HB.out.size
        clear hT4
        generalize hH : wr.heap.size = H at HT4 HNE HH
        generalize hW4 : World.alloc wr _ = W4 at HT4 HB4 HO4
        clear hH hW4 a0 a1 a2 a3
        obtain ⟨⟨t0, t1, t2, t3⟩, u0, u1, u2, u3⟩ := HT4.out.cells
        by_cases hP : PropF k X ∧ X.size ≤ 200
        · obtain ⟨m, rfl, g1, g2, g3, hm1, hm4, hm2⟩ := prop_facts hP.1
          have hX2 : X.size ≤ 200 := hP.2
          have HPY : Hid (∀ W, Calls Tryd.prog 13 #[.agg #[.int .i64 (m : Int), .int .i64 v0, .int .i64 q, .string X]] W fun e w' => e = .returned (.bool true) ∧ Below W.heap.size W w') := Lib.hid (fun W => (HPR.out W).mono (by
            rintro e w' ⟨v, rfl, hv, hb⟩
            rw [hv.2 hP]
            exact ⟨rfl, hb⟩))
          obtain ⟨L, hL⟩ : ∃ L, (src m X.data.toList).length + 1 = L := ⟨_, rfl⟩
          have HST := Lib.hid (back_step HV.out g1 g2 g3)
          rw [hL] at HST
          have HLL := Lib.hid hL
          have hS12 : S.size ≤ 12180 := by omega
          clear g1 g2 g3 hP hL HPR
          by_cases hm : m = 2
          · obtain ⟨nv, hnv⟩ : ∃ nv, valD X.data.toList = nv := ⟨_, rfl⟩
            have HVA := Lib.hid (fun W => refValue_any X W (hm2 hm).1 (hm2 hm).2)
            rw [hnv] at HVA
            have hnu : (nv : Int) = (numV m X.data.toList : Nat) := by rw [← hnv, hm]; rfl
            have d2 : ((m : Int) == 2) = true := by rw [hm]; rfl
            have HNU := Lib.hid hnu
            clear hm hm2 hnu hnv
            go_upto_region 11 with (go_at_call 13; (with_reducible refine (HPY.out _).mono ?_); rintro e w5 ⟨rfl, hb5⟩; have HB5 := Lib.hid (HB4.out.trans (hb5.mono HB4.out.size)); have HT5 := Lib.hid (HT4.out.below hb5); have HO5 := Lib.hid (own_keepB HO4.out hb5); clear hb5 t0 t1 t2 t3 u0 u1 u2 u3; obtain ⟨⟨t0, t1, t2, t3⟩, u0, u1, u2, u3⟩ := HT5.out.cells)
            have HT6 : Hid (TkB (((w5.setCell ⟨H, 2, none⟩ (.int .i64 S.size)).setCell ⟨H, 1, none⟩ (.int .i64 0)).setCell ⟨H, 1, none⟩ (.int .i64 nv)) H m nv S.size X) := Lib.hid (((HT5.out.set2 S.size).set1 0).set1 nv)
            have HG6 : Hid (w5.grownBy (((w5.setCell ⟨H, 2, none⟩ (.int .i64 S.size)).setCell ⟨H, 1, none⟩ (.int .i64 0)).setCell ⟨H, 1, none⟩ (.int .i64 nv)) (some H)) := Lib.hid (gr_tr (gr_tr (gr_set _ _ _ _) (gr_set _ _ _ _)) (gr_set _ _ _ _))
            go_upto_region 15 with (go_at_call 14; (with_reducible refine (HVA.out _).mono ?_); rintro e w6 ⟨rfl, rfl⟩)
            clear t0 t1 t2 t3 u0 u1 u2 u3
            generalize hW6 : World.setCell (World.setCell (World.setCell w5 _ _) _ _) _ _ = W6 at HT6 HG6
            clear hW6
            have HO6 := Lib.hid (own_other HO5.out HG6.out HNE.out)
            have HB6 := Lib.hid (below_grown HB5.out HG6.out (fun j hj => by injection hj with hj; have := HH.out; omega) HB5.out.size)
            obtain ⟨⟨t0, t1, t2, t3⟩, u0, u1, u2, u3⟩ := HT6.out.cells
            have HSR := Lib.hid (fun W => refSource_int m nv S.size X W (by omega))
            go_wp2_with (first
              | (at_builtin; refine wpList_append_own_at _ rfl (.tmp 39) (.tmp 41) 23 rfl w.heap.size 30 i0 _ 4 40 Tryd.underlying23 hi0 hz0 hz1 hz2 rfl (by decide) _ _ (tkl S.size D) rfl (HO6.out.alloc _) ⟨W6.heap.size, 0, none⟩ 1 1 (tkl (S.size + L) [⟨m, L, X.data.toList⟩]) rfl (by rw [tkl_len]; rfl) (tk_src (TkB.new W6 _ _ _ _) rfl HNU.out (by rw [Nat.add_sub_cancel]) rfl) (tkl_one _ _) (by unfold maxLen; omega) (by omega) (by have := HB6.out.size; simp; omega) ?_; intro v7 w7 g1 g2 _ g3; have HO7 := Lib.hid g1; have HG7 := Lib.hid g2; have HT7 := Lib.hid (show TkB w7 H m nv S.size X from (HT6.out.below (below_one W6 _)).keep (g2.block H (by have := HT6.out.lt; simp; omega) (fun e => HNE.out H e.symm rfl))); clear g1 g2 g3 t0 t1 t2 t3 u0 u1 u2 u3; obtain ⟨⟨t0, t1, t2, t3⟩, u0, u1, u2, u3⟩ := HT7.out.cells)
              | (go_at_call 15; (with_reducible refine (HSR.out _).mono ?_); rintro e w8 ⟨S2, rfl, hS2, hS2z, hb8⟩; have HS2 := Lib.hid hS2; have HB8 := Lib.hid hb8; have hy1 : (S.size : Int) + (S2.size : Int) ≤ 9223372036854775807 := (by omega); have hy3 : (S ++ S2 : ByteArray).size = S.size + S2.size := ByteArray.size_append; have hy2 : (S.size : Int) + (S2.size : Int) + 1 ≤ 9223372036854775807 := (by omega); clear hS2 hb8))
            have hSS : S2.data.toList = src m X.data.toList := src_of HS2.out rfl
            have hSz : S2.size + 1 = L := by rw [← HLL.out, ← hSS]; simp
            have hNz : (S ++ S2 ++ ⟨#[32]⟩ : ByteArray).size = S.size + L := by rw [ByteArray.size_append, ByteArray.size_append]; show S.size + S2.size + 1 = _; omega
            have hB7 := below_grown (HB6.out.trans ((below_one W6 _).mono HB6.out.size)) HG7.out (fun j hj => (World.ownsRow.lt HO6.out j hj).1) (by have := HB6.out.size; simp; omega)
            go_roundw
            case rel =>
              refine ⟨i + 1, S ++ S2 ++ ⟨#[32]⟩, v7, D.map (shf L) ++ [⟨m, L, X.data.toList⟩], by go_num, rfl, rfl, by omega, Lib.hid ?_, Lib.hid ?_, Lib.hid (hB7.trans (HB8.out.mono hB7.size)), Lib.hid ?_, ?_⟩
              · rw [hNz, tkl_app, tkl_shf]; exact own_keepB HO7.out HB8.out
              · rw [List.length_append, List.length_map, HN.out]; rfl
              · have e : (S ++ S2 ++ ⟨#[32]⟩ : ByteArray).data.toList = S.data.toList ++ src m X.data.toList ++ [32] := by rw [← hSS]; simp
                rw [e]; exact HST.out
              · rw [hNz]; omega
            case measure => simp [RowKit.intOf]; omega
          · have hnu : (0 : Int) = (numV m X.data.toList : Nat) := by unfold numV; rw [if_neg hm]; rfl
            have d2 : ((m : Int) == 2) = false := by rw [beq_eq_false_iff_ne]; omega
            have HNU := Lib.hid hnu
            clear hm hm2 hnu
            go_upto_region 11 with (go_at_call 13; (with_reducible refine (HPY.out _).mono ?_); rintro e w5 ⟨rfl, hb5⟩; have HB5 := Lib.hid (HB4.out.trans (hb5.mono HB4.out.size)); have HT5 := Lib.hid (HT4.out.below hb5); have HO5 := Lib.hid (own_keepB HO4.out hb5); clear hb5 t0 t1 t2 t3 u0 u1 u2 u3; obtain ⟨⟨t0, t1, t2, t3⟩, u0, u1, u2, u3⟩ := HT5.out.cells)
            have HT6 : Hid (TkB ((w5.setCell ⟨H, 2, none⟩ (.int .i64 S.size)).setCell ⟨H, 1, none⟩ (.int .i64 0)) H m 0 S.size X) := Lib.hid ((HT5.out.set2 S.size).set1 0)
            have HG6 : Hid (w5.grownBy ((w5.setCell ⟨H, 2, none⟩ (.int .i64 S.size)).setCell ⟨H, 1, none⟩ (.int .i64 0)) (some H)) := Lib.hid (gr_tr (gr_set _ _ _ _) (gr_set _ _ _ _))
            go_upto_region 15 with fail
            clear t0 t1 t2 t3 u0 u1 u2 u3
            generalize hW6 : World.setCell (World.setCell w5 _ _) _ _ = W6 at HT6 HG6
            clear hW6
            have HO6 := Lib.hid (own_other HO5.out HG6.out HNE.out)
            have HB6 := Lib.hid (below_grown HB5.out HG6.out (fun j hj => by injection hj with hj; have := HH.out; omega) HB5.out.size)
            obtain ⟨⟨t0, t1, t2, t3⟩, u0, u1, u2, u3⟩ := HT6.out.cells
            have HSR := Lib.hid (fun W => refSource_int m 0 S.size X W (by omega))
            go_wp2_with (first
              | (at_builtin; refine wpList_append_own_at _ rfl (.tmp 39) (.tmp 41) 23 rfl w.heap.size 30 i0 _ 4 40 Tryd.underlying23 hi0 hz0 hz1 hz2 rfl (by decide) _ _ (tkl S.size D) rfl (HO6.out.alloc _) ⟨W6.heap.size, 0, none⟩ 1 1 (tkl (S.size + L) [⟨m, L, X.data.toList⟩]) rfl (by rw [tkl_len]; rfl) (tk_src (TkB.new W6 _ _ _ _) rfl HNU.out (by rw [Nat.add_sub_cancel]) rfl) (tkl_one _ _) (by unfold maxLen; omega) (by omega) (by have := HB6.out.size; simp; omega) ?_; intro v7 w7 g1 g2 _ g3; have HO7 := Lib.hid g1; have HG7 := Lib.hid g2; have HT7 := Lib.hid (show TkB w7 H m 0 S.size X from (HT6.out.below (below_one W6 _)).keep (g2.block H (by have := HT6.out.lt; simp; omega) (fun e => HNE.out H e.symm rfl))); clear g1 g2 g3 t0 t1 t2 t3 u0 u1 u2 u3; obtain ⟨⟨t0, t1, t2, t3⟩, u0, u1, u2, u3⟩ := HT7.out.cells)
              | (go_at_call 15; (with_reducible refine (HSR.out _).mono ?_); rintro e w8 ⟨S2, rfl, hS2, hS2z, hb8⟩; have HS2 := Lib.hid hS2; have HB8 := Lib.hid hb8; have hy1 : (S.size : Int) + (S2.size : Int) ≤ 9223372036854775807 := (by omega); have hy3 : (S ++ S2 : ByteArray).size = S.size + S2.size := ByteArray.size_append; have hy2 : (S.size : Int) + (S2.size : Int) + 1 ≤ 9223372036854775807 := (by omega); clear hS2 hb8))
            have hSS : S2.data.toList = src m X.data.toList := src_of HS2.out rfl
            have hSz : S2.size + 1 = L := by rw [← HLL.out, ← hSS]; simp
            have hNz : (S ++ S2 ++ ⟨#[32]⟩ : ByteArray).size = S.size + L := by rw [ByteArray.size_append, ByteArray.size_append]; show S.size + S2.size + 1 = _; omega
            have hB7 := below_grown (HB6.out.trans ((below_one W6 _).mono HB6.out.size)) HG7.out (fun j hj => (World.ownsRow.lt HO6.out j hj).1) (by have := HB6.out.size; simp; omega)
            go_roundw
            case rel =>
              refine ⟨i + 1, S ++ S2 ++ ⟨#[32]⟩, v7, D.map (shf L) ++ [⟨m, L, X.data.toList⟩], by go_num, rfl, rfl, by omega, Lib.hid ?_, Lib.hid ?_, Lib.hid (hB7.trans (HB8.out.mono hB7.size)), Lib.hid ?_, ?_⟩
              · rw [hNz, tkl_app, tkl_shf]; exact own_keepB HO7.out HB8.out
              · rw [List.length_append, List.length_map, HN.out]; rfl
              · have e : (S ++ S2 ++ ⟨#[32]⟩ : ByteArray).data.toList = S.data.toList ++ src m X.data.toList ++ [32] := by rw [← hSS]; simp
                rw [e]; exact HST.out
              · rw [hNz]; omega
            case measure => simp [RowKit.intOf]; omega
        · have HPN : Hid (∀ W, Calls Tryd.prog 13 #[.agg #[.int .i64 k, .int .i64 v0, .int .i64 q, .string X]] W fun e w' => e = .returned (.bool false) ∧ Below W.heap.size W w') := Lib.hid (fun W => (HPR.out W).mono (by
            rintro e w' ⟨v, rfl, hv, hb⟩
            have : v = false := by
              cases v
              · rfl
              · exact absurd (hv.1 rfl) hP
            rw [this]
            exact ⟨rfl, hb⟩))
          clear hP HPR
          go_wp2_with (first
            | (go_at_call 13; (with_reducible refine (HPN.out _).mono ?_); rintro e w5 ⟨rfl, hb5⟩; have HB5 := Lib.hid (HB4.out.trans (hb5.mono HB4.out.size)); clear hb5)
            | (go_at_call 9; (with_reducible refine (awake_any _).mono ?_); rintro e w6 ⟨rfl, hb6⟩; have HB6 := Lib.hid (HB5.out.trans (hb6.mono HB5.out.size)); clear hb6))
          go_ret
          exact ⟨rfl, HB6.out⟩
      · obtain rfl : i = len := by omega
        have hd : decide ((i : Int) < (i : Int)) = false := decide_eq_false (by omega)
        have hsc := back_end HV.out
        have hS12 : S.size ≤ 12180 := by omega
        have hsl : S.data.toList.length = S.size := by simp
        have HX1 := Lib.hid (fun W => scn_good S W (by unfold maxLen; omega) (D := D ++ [⟨0, 0, []⟩]) (n := i + 1) (by rw [scnP_small (by omega)]; exact hsc) (by rw [List.length_append, HN.out]; rfl))
        have HLN : Hid ((D ++ [(⟨0, 0, []⟩ : Tk)]).length = i + 1) := Lib.hid (by rw [List.length_append, HN.out]; rfl)
        clear hsc hsl
        go_wp2_with (first
          | (at_builtin; refine wpList_append_own_at _ rfl (.tmp 48) (.tmp 52) 23 rfl w.heap.size 30 i0 _ 4 40 Tryd.underlying23 hi0 hz0 hz1 hz2 rfl (by decide) _ _ (tkl S.size D) rfl (HO.out.alloc _) ⟨wr.heap.size, 0, none⟩ 1 1 (tkl S.size [⟨0, 0, []⟩]) rfl (by rw [tkl_len]; rfl) (tk_src (TkB.new wr _ _ _ _) rfl rfl (by rw [Nat.sub_zero]) rfl) (tkl_one _ _) (by unfold maxLen; omega) (by omega) (by have := HB.out.size; simp; omega) ?_; intro v9 w9 g1 g2 _ g3; have HB9 := Lib.hid (below_grown (HB.out.trans ((below_one wr _).mono HB.out.size)) g2 (fun j hj => (World.ownsRow.lt HO.out j hj).1) (by have := HB.out.size; simp; omega)); rw [← tkl_app] at g1; obtain ⟨A9, c9, rfl, hc9, hm9, hT9⟩ := tok_read g1 HLN.out; have HT9 := Lib.hid hT9; clear g1 g2 g3 hT9)
          | (go_at_call 10; (with_reducible refine (HX1.out _).mono ?_); rintro e w1 ⟨A1, c1, rfl, hc1, hm1, ht1, hb1⟩; have HB1 := Lib.hid (HB9.out.trans (hb1.mono HB9.out.size)); have HT1 := Lib.hid ht1; have HT91 := Lib.hid (HT9.out.below hb1); clear hb1 ht1)
          | (go_at_call 12; refine (refSame_yes A1 A9 (i + 1) c1 c9 _ (by unfold maxLen; omega) (fun j hj => ⟨_, _, _, _, HT1.out.at_ (by rw [HLN.out]; exact hj), HT91.out.at_ (by rw [HLN.out]; exact hj)⟩)).mono ?_; rintro e w3 ⟨rfl, n3, rfl⟩)
          | (go_at_call 9; (with_reducible refine (awake_any _).mono ?_); rintro e w4 ⟨rfl, hb4⟩; have HB4 := Lib.hid (below_d HB1.out hb4); clear hb4))
        go_ret
        exact ⟨rfl, HB4.out⟩
end Go.Proofs.YtkdimbpmgngajaaDoor
