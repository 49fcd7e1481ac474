/- Walk: zones.Minimal. -/
import Derived.Test.YtflonakoagjmhaaZnMi
namespace Go.Proofs.Ytflonakoagjmhaa.Zn
open Go.RowKit Go.Lib Go.Shelf Go.Proofs.Ytflonakoagjmhaa Go.Maps

theorem zInfo : (Try.prog.info? 37).map (fun i => (i.zero, i.size, i.bytes)) = some (some (.agg #[.string ByteArray.empty, .slice none 0 0]), 2, 40) := by kernel_rfl
theorem lookUp_is {w : World} {b n : Nat} {L : List (Wd × Wd)} (h : SMap w b n L) (s : ByteArray) (hs : s.size ≤ maxLen) (V : ByteArray) (hV : V.data.toList = lk (val L) s.data.toList) (q : Nat) :
    Calls Try.prog 29 #[.map (some b), .string s] (w.drewN q) fun e w' => e = .returned (.string V) ∧ w' = w.drewN q := by
  refine (lookUp_any (h.below (below_drewN (Below.refl _ w) q)) s hs).mono ?_
  rintro e w' ⟨v, rfl, hv, -, rfl⟩
  exact ⟨by rw [ba_ext (hv.trans hV.symm)], rfl⟩
theorem zv_src {w : World} {g : Nat} {ty : TypeId} {e : ZV} (h : Blk w g ty #[.string e.nm, .slice e.A e.n e.c]) : ∀ j v, (zvl [e])[j]? = some v → w.cell? ((⟨g, 0, none⟩ : Addr).add j) = some v := fun j v hj => by
  rw [add_none, Nat.zero_add, h.cell j, ← hj]
  simp [zvl, encZ]
theorem getD_app {α : Type} (a : List α) (x d : α) (j : Nat) : (a ++ [x]).getD j d = if j < a.length then a.getD j d else if j = a.length then x else d := by
  simp only [List.getD_eq_getElem?_getD, List.getElem?_append]
  by_cases h : j < a.length
  · rw [if_pos h, if_pos h]
  · rw [if_neg h, if_neg h]
    by_cases h2 : j = a.length
    · subst h2; simp
    · rw [if_neg h2]
      have : j - a.length ≠ 0 := by omega
      obtain ⟨m, hm⟩ : ∃ m, j - a.length = m + 1 := ⟨j - a.length - 1, by omega⟩
      rw [hm]; simp
theorem RowOk.app {w W w' : World} {v : Value} {e : ZV} (h : RowOk w e) (hb : Below w.heap.size w W) (hg : W.grownBy w' v.ownBlock) (ha : Apart v e) : RowOk w' e := by
  refine h.keep (Nat.le_trans hb.size hg.size) fun a hA hlt => ?_
  rw [hg.block a.block (Nat.lt_of_lt_of_le hlt hb.size) (fun e => ha a hA e.symm), hb.block a.block hlt]
theorem Apart.app {w W : World} {v v' : Value} {e : ZV} (h : RowOk w e) (hs : w.heap.size ≤ W.heap.size) (ha : Apart v e) (hg : v'.ownBlock = v.ownBlock ∨ v'.ownBlock = some W.heap.size) : Apart v' e := by
  intro a hA he
  rcases hg with hg | hg
  · exact ha a hA (hg ▸ he)
  · rw [hg] at he
    have := h.bk a hA
    have := Option.some.inj he
    omega
theorem zs_map {w : World} {g : Nat} {E : List ZV} (h : VzR w g E) (hr : ∀ e ∈ E, RowOk w e) : ZsR w (some ⟨g, 0, none⟩) (E.map ZV.zm) := by
  intro k hk
  rw [List.length_map] at hk
  have e1 : (E.map ZV.zm).getD k zm0 = (E.getD k zv0).zm := by
    simp [List.getD_eq_getElem?_getD, List.getElem?_map, List.getElem?_eq_getElem hk]
  have e2 : E.getD k zv0 ∈ E := by
    rw [List.getD_eq_getElem?_getD, List.getElem?_eq_getElem hk]; exact List.getElem_mem _
  have ho := hr _ e2
  obtain ⟨h1, h2⟩ := h.2 k hk
  rw [e1]
  refine ⟨g, 0, (E.getD k zv0).A, (E.getD k zv0).c, rfl, h.1, by rw [Nat.zero_add]; exact h1, ?_, ?_, ho.mx, ho.ts, fun a ha _ => ho.bk a ha⟩
  · rw [Nat.zero_add, h2, ho.n]; rfl
  · have := ho.le; rw [ho.n] at this; exact this
set_option maxRecDepth 100000 in
set_option maxHeartbeats 16000000 in
theorem minimal_any (A : Option Addr) (n c : Nat) (l : List Zm) (w : World) (hA : ZsR w A l) (hn : l.length = n) (hc : n ≤ c) (hm : c ≤ maxLen) (hf : Fit l) :
    Calls Try.prog 21 #[.slice A n c] w (MnOut (zos l) w) := by
  have HC := Lib.hid (index_any A n c l w hA hn hc hm hf)
  unfold IdxOut at HC
  unfold MnOut
  obtain ⟨ev, hev⟩ : ∃ ev, ckZ (zos l) = ev := ⟨_, rfl⟩
  have HEV := Lib.hid hev
  have hev2 : (ixL (zos l)).1 = ev := hev
  rw [hev2] at HC
  rw [hev]
  clear hev hev2
  by_cases hz : ev = 0
  · subst hz
    rw [ixL_ok HEV.out] at HC
    simp only [if_true] at HC ⊢
    have hV := ck_vld.1 HEV.out
    have hn64 : n ≤ 64 := by have := hV.len; rw [zos_len, hn] at this; exact this
    have HV := Lib.hid hV; have HA := Lib.hid hA; have HN := Lib.hid hn; have HF := Lib.hid hf
    obtain ⟨F, hF⟩ : ∃ F, pairs (zos l) = F := ⟨_, rfl⟩
    have HPF := Lib.hid hF
    rw [hF] at HC
    obtain ⟨i0, hi0, hz0, hz1, hz2⟩ := info_parts strInfo
    obtain ⟨k0, hk0, hy0, hy1, hy2⟩ := info_parts zInfo
    clear hA hn hf hV hm hF
    go_enter Try.func21, Try.ntmps21
    go_wp2_with (go_at_call 25; (with_reducible refine HC.out.mono ?_); rintro e w1 ⟨b1, n1, rfl, hm1, hb1, hbw⟩; have HM1 := Lib.hid hm1; have HBW := Lib.hid hbw; clear hm1 hb1 hbw)
    go_loopw [5, 20] (fun v iv wr => ∃ (k : Nat) (u : Value) (E : List ZV), u = v ∧ iv = .int .i64 k ∧ k ≤ n ∧ Hid (E.length = k) ∧ Hid (Below w1.heap.size w1 wr) ∧ Hid (wr.ownsRow w1.heap.size 37 2 u k (zvl E)) ∧ Hid (∀ j, j < k → RowOk wr (E.getD j zv0) ∧ Apart u (E.getD j zv0) ∧ MinZ (val F) (l.getD j zm0) (E.getD j zv0).zm)) (fun _ iv _ => n - (intOf iv).toNat)
    case atStart => exact ⟨0, _, [], rfl, rfl, by omega, Lib.hid rfl, Lib.hid (Below.refl _ _), Lib.hid (World.ownsRow_nil _ _ _ _), Lib.hid fun j h => absurd h (Nat.not_lt_zero j)⟩
    case round =>
      obtain ⟨k, v, E, rfl, rfl, hk, HE, HB, HO, HR⟩ := hrel
      by_cases hlt : k < n
      · have hkl : k < l.length := by rw [HN.out]; exact hlt
        have hlt' : (k : Int) < (n : Int) := by omega
        obtain ⟨bk, off, P, c2, rfl, hbl, g0, g1, g2, g3, g4, g5⟩ := HA.out k hkl
        have hb9 : Below w.heap.size w wr := HBW.out.trans (HB.out.mono HBW.out.size)
        have e0 := (hb9.cell (p := ⟨bk, off + k * 2, none⟩) hbl).trans g0
        have e1 := (hb9.cell (p := ⟨bk, off + k * 2 + 1, none⟩) hbl).trans g1
        have HFZ := Lib.hid (HF.out.at hkl rfl)
        have HKN := Lib.hid (kept_ne HV.out (z := (l.getD k zm0).zo) (by rw [← zos_get hkl]; exact List.getElem_mem _))
        have HVP := Lib.hid (show (∀ p ∈ (l.getD k zm0).ps, numB p.data.toList = true) ∧ ((l.getD k zm0).ps.map fun s => s.data.toList).Nodup ∧ (l.getD k zm0).ps.length ≤ 64 from by
          have hz := HV.out.ok (l.getD k zm0).zo (by rw [← zos_get hkl]; exact List.getElem_mem _)
          refine ⟨fun p hp => hz.2.2.2 _ (List.mem_map.2 ⟨p, hp, rfl⟩), ?_, by have := hz.2.2.1; simpa [Zm.zo] using this⟩
          have hnd := HV.out.once
          obtain ⟨a, b, hab⟩ := List.append_of_mem (show (l.getD k zm0).zo ∈ zos l by rw [← zos_get hkl]; exact List.getElem_mem _)
          rw [hab, fsts_app, fsts_cons] at hnd
          exact (List.nodup_append.1 (List.nodup_append.1 hnd).2.1).1)
        rw [HPF.out] at HKN
        obtain ⟨z, hzz⟩ : ∃ z, l.getD k zm0 = z := ⟨_, rfl⟩
        have HZZ := Lib.hid hzz
        rw [hzz] at e0 e1 g2 g4 HFZ HKN HVP
        obtain ⟨x, ss⟩ := z
        simp only at e0 e1 g2 g4 HFZ HVP
        have HP := Lib.hid (g4.below hb9)
        obtain ⟨L, hL⟩ : ∃ L, ss.length = L := ⟨_, rfl⟩
        rw [hL] at e1
        have HL := Lib.hid hL
        have hL64 : L ≤ 64 := by have := HVP.out.2.2; omega
        obtain ⟨R, hR⟩ : ∃ R, wr.alloc (.cells #[.string x, .slice P L c2] 37) = R := ⟨_, rfl⟩
        have HWR : Hid (Below wr.heap.size wr R) := Lib.hid (hR ▸ below_one wr _)
        have HRS : Hid (R.heap.size = wr.heap.size + 1) := Lib.hid (by rw [← hR]; simp)
        have hQ : Blk R wr.heap.size 37 #[.string x, .slice P L c2] := hR ▸ Blk.new wr _ _
        have HQ := Lib.hid hQ
        obtain ⟨hc0, hc1⟩ := hQ.two
        have HMR : Hid (SMap R b1 n1 F) := Lib.hid ((HM1.out.below HB.out).below HWR.out)
        have HPR := Lib.hid (HP.out.below HWR.out)
        clear g0 g1 g2 g3 g4 g5 hkl hzz hL hbl hb9 hQ
        go_wp2_with fail
        clear e0 e1 hc0 hc1
        go_loopw [8, 27] (fun v8 jv w9 => ∃ (j : Nat) (u : Value), u = v8 ∧ jv = .int .i64 j ∧ j ≤ L ∧ Hid (Below R.heap.size R w9) ∧ Hid (w9.ownsRow R.heap.size 9 1 u (kp (val F) x.data.toList ss j).length ((kp (val F) x.data.toList ss j).map Value.string))) (fun _ jv _ => L - (intOf jv).toNat)
        case atStart => exact ⟨0, _, rfl, rfl, by omega, Lib.hid (Below.refl _ _), Lib.hid (World.ownsRow_nil _ _ _ _)⟩
        case round =>
          obtain ⟨j, v8, rfl, rfl, hj, HB9, HO9⟩ := hrel
          obtain ⟨d0, d1⟩ := (HQ.out.below HB9.out HQ.out.lt).two
          by_cases hjl : j < L
          · have hjl' : (j : Int) < (L : Int) := by omega
            have hjs : j < ss.length := by rw [HL.out]; exact hjl
            obtain ⟨bp, offp, rfl, hbp, gp⟩ := HPR.out j hjs
            have HY := Lib.hid (fun h => kp_yes (f := val F) (nm := x.data.toList) hjs h); have HX := Lib.hid (fun h => kp_no (f := val F) (nm := x.data.toList) hjs h)
            have HKL := Lib.hid (kp_len (val F) x.data.toList ss j)
            obtain ⟨p, hp⟩ : ∃ p, ss.getD j ⟨#[]⟩ = p := ⟨_, rfl⟩
            rw [hp] at gp HY HX
            have e2 := (HB9.out.cell (p := ⟨bp, offp + j, none⟩) hbp).trans gp
            have hmem : p ∈ ss := by rw [← hp, List.getD_eq_getElem?_getD, List.getElem?_eq_getElem hjs]; exact List.getElem_mem _
            have hps := HFZ.out.2.2 p hmem
            have hp1 : 1 ≤ p.size := by
              have := num_ne (HVP.out.1 p hmem)
              have h2 := List.length_pos_iff.2 this
              have h3 : p.data.toList.length = p.size := by simp
              omega
            have hpI : (1 : Int) ≤ (p.size : Int) := by omega
            have hpm : (p.size : Int) ≤ 9223372036854775807 := by unfold maxLen at hps; omega
            obtain ⟨V, hV⟩ : ∃ V : ByteArray, V.data.toList = lk (val F) p.data.toList.dropLast := ⟨⟨(lk (val F) p.data.toList.dropLast).toArray⟩, rfl⟩
            have HLK := Lib.hid (fun q => lookUp_is (HMR.out.below HB9.out) (p.extract 0 (p.size - 1)) (by simp only [ByteArray.size_extract]; omega) V (by rw [ext_last]; exact hV) q)
            have hkb : (!(V.toList == x.toList)) = keepB (val F) p.data.toList x.data.toList := by
              rw [sEq, hV]; unfold keepB; rfl
            obtain ⟨kb, hkbv⟩ : ∃ kb, (V.toList == x.toList) = kb := ⟨_, rfl⟩
            rw [hkbv] at hkb
            have HKB := Lib.hid hkb
            clear gp hbp hmem hps hV hkb hp hjs
            cases kb
            · have HY2 := Lib.hid (HY.out (by rw [← HKB.out]; rfl))
              go_wp2_with fail
              go_quiet ((go_at_call 29; exact Calls.quiet_of_same (HLK.out _)))
              generalize hW : World.drewN wr _ = W4
              have HW4 : Hid (Below wr.heap.size wr W4) := Lib.hid (hW ▸ below_drewN (Below.refl _ _) _)
              have HO5 : Hid (W4.ownsRow R.heap.size 9 1 v8 (kp (val F) x.data.toList ss j).length ((kp (val F) x.data.toList ss j).map Value.string)) := Lib.hid (own_keep HO9.out HW4.out)
              have HB5 : Hid (Below R.heap.size R W4) := Lib.hid (HB9.out.trans (HW4.out.mono HB9.out.size))
              clear hW
              go_wp2_with (at_builtin; refine wpList_append_own_at _ rfl (.tmp 41) (.tmp 43) 28 rfl R.heap.size 9 i0 _ 1 16 Try.underlying28 hi0 hz0 hz1 hz2 rfl (by decide) _ _ ((kp (val F) x.data.toList ss j).map Value.string) rfl (HO5.out.alloc _) ⟨W4.heap.size, 0, none⟩ 1 1 [.string p] rfl rfl (txt_src (Blk.new W4 9 _)) (by simp [Value.oneCell']) (by have := HKL.out; unfold maxLen; omega) (by have := HKL.out; omega) (by have := HB5.out.size; simp; omega) ?_; intro v4 w4 g1 g2 _ g3; have HO6 := Lib.hid g1; have HB6 := Lib.hid (below_grown (HB5.out.alloc HB5.out.size _) g2 (fun j hj => (World.ownsRow.lt HO5.out j hj).1) (by have := HB5.out.size; simp; omega)); clear g1 g2 g3)
              go_roundw
              case rel => exact ⟨j + 1, _, rfl, by go_num, by omega, HB6, Lib.hid (by rw [HY2.out, List.length_append, List.map_append]; exact HO6.out)⟩
              case measure => simp [intOf] <;> omega
            · have HX2 := Lib.hid (HX.out (by rw [← HKB.out]; rfl))
              go_wp2_with fail
              go_quiet ((go_at_call 29; exact Calls.quiet_of_same (HLK.out _)))
              generalize hW : World.drewN wr _ = W4
              have HW4 : Hid (Below wr.heap.size wr W4) := Lib.hid (hW ▸ below_drewN (Below.refl _ _) _)
              clear hW
              go_wp2_with fail
              go_roundw
              case rel => exact ⟨j + 1, _, rfl, by go_num, by omega, Lib.hid (HB9.out.trans (HW4.out.mono HB9.out.size)), Lib.hid (by rw [HX2.out]; exact own_keep HO9.out HW4.out)⟩
              case measure => simp [intOf] <;> omega
          · obtain rfl : j = L := by omega
            have HKK : Hid (0 < (kp (val F) x.data.toList ss j).length) := Lib.hid (by
              obtain ⟨p, hp, hk⟩ := HKN.out
              obtain ⟨q, hq, rfl⟩ := List.mem_map.1 hp
              refine List.length_pos_of_mem (a := q) ?_
              unfold kp
              rw [List.take_of_length_le (by rw [HL.out]; exact Nat.le_refl _)]
              exact List.mem_filter.2 ⟨hq, hk⟩)
            have HKL := Lib.hid (kp_len (val F) x.data.toList ss j)
            have HSZ := Lib.hid (show ∀ p ∈ kp (val F) x.data.toList ss j, p.size ≤ maxLen from fun p hp => by
              unfold kp at hp
              exact HFZ.out.2.2 p (List.take_subset _ _ (List.mem_filter.1 hp).1))
            have HKP : Hid (kp (val F) x.data.toList ss j = kp (val F) x.data.toList ss ss.length) := Lib.hid (by rw [HL.out])
            have hown := HO9.out
            obtain ⟨K, hK⟩ : ∃ K, kp (val F) x.data.toList ss j = K := ⟨_, rfl⟩
            rw [hK] at hown HKK HKL HSZ HKP
            obtain ⟨A8, c8, rfl, hc8, hm8, hA8⟩ := own_formN hown
            obtain ⟨g8, rfl, hg8, hg8w⟩ := hA8 HKK.out
            obtain ⟨N8, hN8⟩ : ∃ N8, K.length = N8 := ⟨_, rfl⟩
            rw [hN8] at hown HKK HKL hc8
            have HN8 := Lib.hid hN8
            have HST := Lib.hid (sortB_any hown hN8 (by have := HKL.out; omega) HSZ.out)
            have HG8 := Lib.hid (And.intro hg8 (And.intro hc8 hm8))
            have HV9 := Lib.hid (fun g h => (World.ownsRow.lt HO.out g h).2)
            clear hown hA8 hK hg8 hg8w hc8 hm8 hN8 HO9
            rw [HN8.out]
            go_wp2_with (first
              | (go_at_call 35; (with_reducible refine HST.out.mono ?_); rintro e w5 ⟨rfl, D, q1, q2, q3, q4, q5⟩; have HD := Lib.hid (And.intro q1 (And.intro q2 q3)); have HB5 := Lib.hid (HB9.out.trans (q4.mono (Nat.le_refl _))); clear q1 q2 q3 q4 q5 d0 d1; obtain ⟨d0, d1⟩ := (HQ.out.below HB5.out HQ.out.lt).two; have HO5 := Lib.hid (own_keep (own_keep HO.out HWR.out) HB5.out))
              | (at_builtin; refine wpList_append_own_at _ rfl (.tmp 48) (.tmp 53) 22 rfl w1.heap.size 37 k0 _ 2 40 Try.underlying22 hk0 hy0 hy1 hy2 rfl (by decide) _ _ (zvl E) rfl (HO5.out.alloc _) ⟨w5.heap.size, 0, none⟩ 1 1 (zvl [⟨x, some ⟨g8, 0, none⟩, N8, c8, D⟩]) rfl (by rw [zvl_len]; rfl) (zv_src (e := ⟨x, some ⟨g8, 0, none⟩, N8, c8, D⟩) (Blk.new w5 37 _)) (zvl_one _) (by unfold maxLen; omega) (by omega) (by have := HB5.out.size; have := HWR.out.size; have := HB.out.size; simp; omega) ?_; intro v4 w6 g1 g2 _ g3; have HO6 := Lib.hid g1; have HG6 := Lib.hid g2; have HG7 := Lib.hid g3; clear g1 g2 g3))
            go_roundw
            case rel =>
              have hRS := HRS.out
              have hsz5 := HB5.out.size
              have hN8' : D.length = N8 := by rw [HD.out.1.length_eq, HN8.out]
              have hnew : RowOk w5 ⟨x, some ⟨g8, 0, none⟩, N8, c8, D⟩ := ⟨hN8'.symm, HG8.out.2.1, HG8.out.2.2, HD.out.2.2, fun a ha => by
                injection ha with ha
                obtain ⟨b', o', he, hlt', -⟩ := HD.out.2.2 0 (by have := HKK.out; omega)
                injection he with he
                rw [← ha, he]; exact hlt'⟩
              have hapn : Apart v ⟨x, some ⟨g8, 0, none⟩, N8, c8, D⟩ := fun a ha he => by
                injection ha with ha
                rw [← ha] at he
                have h1 := HV9.out g8 he
                have h2 := HG8.out.1
                omega
              have hW5 := HWR.out.trans (HB5.out.mono HWR.out.size)
              have hbl5 : Below w5.heap.size w5 (w5.alloc (.cells #[.string x, .slice (some ⟨g8, 0, none⟩) N8 c8] 37)) := below_one w5 _
              refine ⟨k + 1, v4, E ++ [⟨x, some ⟨g8, 0, none⟩, N8, c8, D⟩], rfl, by go_num, by omega, Lib.hid (by rw [List.length_append, HE.out]; rfl), Lib.hid ?_, Lib.hid (by rw [zvl_app]; exact HO6.out), Lib.hid ?_⟩
              · refine below_grown ((HB.out.trans (hW5.mono HB.out.size)).trans (hbl5.mono (Nat.le_trans HB.out.size (Nat.le_trans HWR.out.size hsz5)))) HG6.out (fun j hj => (World.ownsRow.lt HO.out j hj).1) ?_
                have := hbl5.size
                have := HB.out.size
                omega
              · intro j hj
                rw [getD_app, HE.out]
                by_cases hjk : j < k
                · rw [if_pos hjk]
                  obtain ⟨r1, r2, r3⟩ := HR.out j hjk
                  have hbb := hW5.trans (hbl5.mono (Nat.le_trans HWR.out.size hsz5))
                  exact ⟨r1.app hbb HG6.out r2, Apart.app r1 hbb.size r2 HG7.out, r3⟩
                · obtain rfl : j = k := by omega
                  rw [if_neg (Nat.lt_irrefl _), if_pos rfl]
                  refine ⟨hnew.app hbl5 HG6.out hapn, Apart.app hnew hbl5.size hapn HG7.out, ?_⟩
                  rw [HZZ.out]
                  exact minZ_of (by rw [← HKP.out]; exact HD.out.1) HVP.out.2.1 HD.out.2.1 HFZ.out.2.2
            case measure => simp [intOf] <;> omega
      · obtain rfl : k = n := by omega
        have hown := HO.out
        obtain ⟨A9, c9, rfl, hc9, hm9, hA9⟩ := own_formN hown
        by_cases h0 : k = 0
        · subst h0
          have HNN := Lib.hid (show Calls Try.prog 37 #[.slice A9 0 c9, .func (.func 38) #[] #[]] wr fun e w' => e = .returned (.tuple #[]) ∧ w' = wr from AnyF.slices_SortFunc_none Try.sortZ A9 c9 (.func (.func 38) #[] #[]) wr)
          have HM9 := Lib.hid hm9
          clear hown hA9 hm9
          go_wp2_with (go_at_call 37; (with_reducible refine HNN.out.mono ?_); rintro e w5 ⟨rfl, rfl⟩)
          go_ret
          have hl0 : l = [] := List.length_eq_zero_iff.1 HN.out
          subst hl0
          exact ⟨A9, c9, [], rfl, Nat.zero_le _, HM9.out, fun k hk => absurd hk (Nat.not_lt_zero k), minL_fin (M := []) (M0 := []) HV.out (List.Perm.refl _) rfl (fun j hj => absurd hj (Nat.not_lt_zero j)) List.Pairwise.nil, fun z hz => absurd hz (by simp), rfl, HBW.out.trans (HB.out.mono HBW.out.size)⟩
        · obtain ⟨g, rfl, hgb, hgw⟩ := hA9 (by omega)
          have HST := Lib.hid (sortZ_any hown HE.out (by omega))
          have HM9 := Lib.hid (And.intro hc9 hm9)
          clear hown hA9 hm9 hgb hgw hc9
          go_wp2_with (go_at_call 37; (with_reducible refine HST.out.mono ?_); rintro e w5 ⟨rfl, E', q1, q2, q3, q4, q5⟩; have HQ := Lib.hid (And.intro q1 (And.intro q2 (And.intro q3 (And.intro q4 q5)))); clear q1 q2 q3 q4 q5)
          go_ret
          obtain ⟨q1, q2, q3, q4, q5⟩ := HQ.out
          have hlen : (E'.map ZV.zm).length = k := by rw [List.length_map, q1.length_eq, HE.out]
          have hat : ∀ e ∈ E', ∃ j, j < k ∧ e = E.getD j zv0 := fun e he => by
            obtain ⟨j, hj, rfl⟩ := List.mem_iff_getElem.1 (q1.mem_iff.1 he)
            exact ⟨j, by rw [← HE.out]; exact hj, by rw [List.getD_eq_getElem?_getD, List.getElem?_eq_getElem hj]; rfl⟩
          have hMg : ∀ j, j < l.length → (E.map ZV.zm).getD j zm0 = (E.getD j zv0).zm := fun j hj => by
            have : j < E.length := by rw [HE.out, ← HN.out]; exact hj
            simp [List.getD_eq_getElem?_getD, List.getElem?_map, List.getElem?_eq_getElem this]
          refine ⟨some ⟨g, 0, none⟩, c9, E'.map ZV.zm, by rw [hlen] <;> rfl, by rw [hlen]; exact HM9.out.1, HM9.out.2, zs_map q3 ?_, minL_fin (M0 := E.map ZV.zm) HV.out (q1.map _) (by rw [List.length_map, HE.out, HN.out]) ?_ ?_, ?_, by rw [hlen, zos_len, HN.out], (HBW.out.trans (HB.out.mono HBW.out.size)).trans (q4.mono HBW.out.size)⟩
          · intro e he
            obtain ⟨j, hj, rfl⟩ := hat e he
            obtain ⟨r1, r2, -⟩ := HR.out j hj
            exact r1.app (v := .slice (some ⟨g, 0, none⟩) k c9) (Below.refl _ _) q5 r2
          · intro j hj
            rw [hMg j hj]
            rw [HPF.out]
            exact (HR.out j (by rw [← HN.out]; exact hj)).2.2
          · exact List.pairwise_map.2 q2
          · intro z hz
            obtain ⟨e, he, rfl⟩ := List.mem_map.1 hz
            obtain ⟨j, hj, rfl⟩ := hat e he
            have h3 := (HR.out j hj).2.2
            have h4 := HF.out.at (by rw [HN.out]; exact hj) (rfl : l.getD j zm0 = l.getD j zm0)
            exact ⟨Nat.le_trans h3.len h4.1, by rw [h3.nm]; exact h4.2.1, h3.sz⟩
  · simp only [hz, if_false] at HC ⊢
    have d0 : (ev == 0) = false := by rw [beq_eq_false_iff_ne]; exact hz
    go_enter Try.func21, Try.ntmps21
    go_wp2_with (go_at_call 25; (with_reducible refine HC.out.mono ?_); rintro e w1 ⟨rfl, hb1⟩)
    go_ret
    exact ⟨rfl, hb1⟩
end Go.Proofs.Ytflonakoagjmhaa.Zn
