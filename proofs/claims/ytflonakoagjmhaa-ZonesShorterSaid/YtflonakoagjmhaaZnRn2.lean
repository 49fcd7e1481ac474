/- Walk of the reference: Minimal. -/
import Derived.Test.YtflonakoagjmhaaZnRp
namespace Go.Proofs.Ytflonakoagjmhaa.Zn
open Go.RowKit Go.Lib Go.Shelf Go.Proofs.Ytflonakoagjmhaa Go.Maps

/-- The names in order, each with its kept prefixes in order, are the minimal list. -/
theorem refMin_fin {l M : List Zm} {L : List ByteArray} (hV : Vld (zos l)) (hl : M.length = L.length) (hasc : (L.map fun s => s.data.toList).Pairwise ltN) (hmem : ∀ n, n ∈ L.map (fun s => s.data.toList) ↔ n ∈ nms (zos l))
    (hm : ∀ j, j < L.length → ∃ i, i < l.length ∧ (l.getD i zm0).nm = L.getD j ⟨#[]⟩ ∧ MinZ (val (pairs (zos l))) (l.getD i zm0) (M.getD j zm0)) : MinL (zos l) (zos M) := by
  have hn0 : nms (zos M) = L.map fun s => s.data.toList := by
    unfold nms
    refine List.ext_getElem (by simp [zos_len, hl]) fun j h1 h2 => ?_
    have hj : j < L.length := by simpa using h2
    obtain ⟨i, hi, he, hz⟩ := hm j hj
    rw [List.getElem_map, List.getElem_map, zos_get (by omega)]
    show (M.getD j zm0).nm.data.toList = _
    rw [hz.nm, he, List.getD_eq_getElem?_getD, List.getElem?_eq_getElem hj]; rfl
  have hof : ∀ y ∈ zos M, ∃ j, j < L.length ∧ y = (M.getD j zm0).zo := by
    intro y hy
    obtain ⟨m, hm1, rfl⟩ := List.mem_map.1 hy
    obtain ⟨j, hj, rfl⟩ := List.mem_iff_getElem.1 hm1
    exact ⟨j, by omega, by rw [List.getD_eq_getElem?_getD, List.getElem?_eq_getElem hj]; rfl⟩
  have hlz : ∀ j, j < l.length → (l.getD j zm0).zo ∈ zos l := fun j hj => by
    rw [← zos_get hj]; exact List.getElem_mem _
  refine minL_of hV (List.pairwise_map.1 (show (nms (zos M)).Pairwise ltN by rw [hn0]; exact hasc)) (fun n => by rw [hn0]; exact hmem n) (fun y hy => ?_) (fun y hy z hz he p => ?_)
  · obtain ⟨j, hj, rfl⟩ := hof y hy
    obtain ⟨i, hi, -, h1⟩ := hm j hj
    exact h1.up
  · obtain ⟨j, hj, rfl⟩ := hof y hy
    obtain ⟨i, hi, -, h1⟩ := hm j hj
    have h2 : z = (l.getD i zm0).zo := nodup_inj hV.nd hz (hlz i hi) (by
      rw [← he]
      show (M.getD j zm0).nm.data.toList = (l.getD i zm0).nm.data.toList
      rw [h1.nm])
    rw [h2]
    exact h1.mem p
theorem prefixes_ok (A : Option Addr) (n c i0 : Nat) (l : List Zm) (s : ByteArray) (w : World) (hA : ZsR w A l) (hn : l.length = n) (hc : n ≤ c) (hm : c ≤ maxLen) (hf : Fit l) (hV : Vld (zos l)) (hi0 : i0 < n) (hs : (l.getD i0 zm0).nm = s) :
    Calls Try.prog 40 #[.slice A n c, .string s] w fun e w' => ∃ (b8 o8 c8 N8 : Nat) (O : List ByteArray), e = .returned (.slice (some ⟨b8, o8, none⟩) N8 c8) ∧ O.length = N8 ∧ 0 < N8 ∧ N8 ≤ c8 ∧ c8 ≤ maxLen ∧ TsR w' (some ⟨b8, o8, none⟩) O ∧ MinZ (val (pairs (zos l))) (l.getD i0 zm0) ⟨s, O⟩ ∧ w.heap.size ≤ b8 ∧ b8 < w'.heap.size ∧ Below w.heap.size w w' := by
  refine (prefixes_any A n c i0 l s w hA hn hc hm hf hV hi0 hs).mono ?_
  rintro e w' ⟨A8, c8, O, rfl, h1, h2, h3, h4, h5, h6⟩
  have hil : i0 < l.length := by omega
  have hz := hV.ok (l.getD i0 zm0).zo (by rw [← zos_get hil]; exact List.getElem_mem _)
  have hnd : ((l.getD i0 zm0).ps.map fun s => s.data.toList).Nodup := by
    have hnd := hV.once
    obtain ⟨a, b, hab⟩ := List.append_of_mem (show (l.getD i0 zm0).zo ∈ zos l by rw [← zos_get hil]; exact List.getElem_mem _)
    rw [hab, fsts_app, fsts_cons] at hnd
    exact (List.nodup_append.1 (List.nodup_append.1 hnd).2.1).1
  have hpos : 0 < O.length := by
    obtain ⟨p, hp, hk⟩ := kept_ne hV (z := (l.getD i0 zm0).zo) (by rw [← zos_get hil]; exact List.getElem_mem _)
    obtain ⟨q, hq, rfl⟩ := List.mem_map.1 hp
    refine List.length_pos_of_mem (a := q) (h4.1.mem_iff.2 ?_)
    unfold kp
    rw [List.take_length]
    exact List.mem_filter.2 ⟨hq, by rw [← hs]; exact hk⟩
  obtain ⟨b8, o8, rfl, -, -⟩ := h3 0 hpos
  obtain ⟨h7, h8⟩ := h5 _ rfl
  refine ⟨b8, o8, c8, O.length, O, rfl, rfl, hpos, h1, h2, h3, ?_, h7, h8, h6⟩
  subst hs
  exact minZ_of h4.1 hnd h4.2 (hf.at hil rfl).2.2
theorem vz_own {w : World} {base g k c : Nat} {ty : TypeId} {E : List ZV} (h : w.ownsRow base ty 2 (.slice (some ⟨g, 0, none⟩) k c) k (zvl E)) (hE : E.length = k) : VzR w g E := by
  refine ⟨(World.ownsRow.lt h g rfl).2, fun j hj => ⟨?_, ?_⟩⟩
  · have h1 := World.ownsRow.cellAt h (j * 2) (by omega)
    have h2 := zvl_at E j 0 hj (by omega)
    rw [Nat.add_zero] at h2
    rw [h1, h2]; rfl
  · have h1 := World.ownsRow.cellAt h (j * 2 + 1) (by omega)
    rw [h1, zvl_at E j 1 hj (by omega)]; rfl
set_option maxRecDepth 100000 in
set_option maxHeartbeats 16000000 in
theorem refMinimal_any (A : Option Addr) (n c : Nat) (l : List Zm) (w : World) (hA : ZsR w A l) (hn : l.length = n) (hc : n ≤ c) (hm : c ≤ maxLen) (hf : Fit l) :
    Calls Try.prog 22 #[.slice A n c] w (MnOut (zos l) w) := by
  have HC := Lib.hid (refNames_any A n c l w hA hn hc hm hf)
  unfold NmOut at HC
  unfold MnOut
  obtain ⟨ev, hev⟩ : ∃ ev, ckZ (zos l) = ev := ⟨_, rfl⟩
  have HEV := Lib.hid hev
  rw [hev] at HC ⊢
  clear hev
  by_cases hz : ev = 0
  · subst hz
    simp only [if_true] at HC ⊢
    have hV := ck_vld.1 HEV.out
    have hn64 : n ≤ 64 := by have := hV.len; rw [zos_len, hn] at this; exact this
    have HC2 := Lib.hid (HC.out.mono (R' := fun e w' => ∃ (A1 : Option Addr) (c1 : Nat) (L : List ByteArray), e = .returned (.slice A1 n c1) ∧ n ≤ c1 ∧ c1 ≤ maxLen ∧ TsR w' A1 L ∧ (L.map fun s => s.data.toList).Pairwise ltN ∧ (∀ n, n ∈ L.map (fun s => s.data.toList) ↔ n ∈ nms (zos l)) ∧ L.length = n ∧ Below w.heap.size w w') (by
      rintro e w' ⟨A1, c1, L, rfl, h1, h2, h3, h4, h5, h6, h7⟩
      rw [zos_len, hn] at h6
      exact ⟨A1, c1, L, by rw [h6], by rw [← h6]; exact h1, h2, h3, h4, h5, h6, h7⟩))
    have HPX := Lib.hid (fun (i0 : Nat) (s : ByteArray) (W : World) (hb : Below w.heap.size w W) (hi0 : i0 < n) (hs : (l.getD i0 zm0).nm = s) => prefixes_ok A n c i0 l s W (hA.below hb) hn hc hm hf hV hi0 hs)
    have HV := Lib.hid hV; have HN := Lib.hid hn; have HF := Lib.hid hf
    obtain ⟨F, hF⟩ : ∃ F, pairs (zos l) = F := ⟨_, rfl⟩
    have HPF := Lib.hid hF
    rw [hF] at HPX
    obtain ⟨k0, hk0, hy0, hy1, hy2⟩ := info_parts zInfo
    clear hA hn hf hV hm hF HC
    go_enter Try.func22, Try.ntmps22
    go_wp2_with (go_at_call 15; (with_reducible refine HC2.out.mono ?_); rintro e w1 ⟨A1, c1, L, rfl, hc1, hm1, hts, has, hme, hll, hbw⟩; have HL := Lib.hid (And.intro has (And.intro hme hll)); have HTS := Lib.hid hts; have HBW := Lib.hid hbw; clear hts has hme hll hbw)
    go_loopw [3, 5] (fun v iv wr => ∃ (k : Nat) (u : Value) (E : List ZV), u = v ∧ iv = .int .i64 k ∧ k ≤ n ∧ Hid (E.length = k) ∧ Hid (Below w1.heap.size w1 wr) ∧ Hid (wr.ownsRow w1.heap.size 37 2 u k (zvl E)) ∧ Hid (∀ j, j < k → RowOk wr (E.getD j zv0) ∧ Apart u (E.getD j zv0) ∧ ∃ i, i < n ∧ (l.getD i zm0).nm = L.getD j ⟨#[]⟩ ∧ MinZ (val F) (l.getD i zm0) (E.getD j zv0).zm)) (fun _ iv _ => n - (intOf iv).toNat)
    case atStart => exact ⟨0, _, [], rfl, rfl, by omega, Lib.hid rfl, Lib.hid (Below.refl _ _), Lib.hid (World.ownsRow_nil _ _ _ _), Lib.hid fun j h => absurd h (Nat.not_lt_zero j)⟩
    case round =>
      obtain ⟨k, v, E, rfl, rfl, hk, HE, HB, HO, HR⟩ := hrel
      by_cases hlt : k < n
      · have hlt' : (k : Int) < (n : Int) := by omega
        have hk0' : (0 : Int) ≤ (k : Int) := by omega
        have hkL : k < L.length := by rw [HL.out.2.2]; exact hlt
        obtain ⟨b1, o1, rfl, hb1, g1⟩ := HTS.out k hkL
        have HX : ∃ i0, i0 < n ∧ (l.getD i0 zm0).nm = L.getD k ⟨#[]⟩ := by
          have h1 : (L.getD k ⟨#[]⟩).data.toList ∈ L.map (fun s => s.data.toList) := List.mem_map.2 ⟨_, by rw [List.getD_eq_getElem?_getD, List.getElem?_eq_getElem hkL]; exact List.getElem_mem _, rfl⟩
          have h2 := (HL.out.2.1 _).1 h1
          unfold nms at h2
          obtain ⟨z, hz, he⟩ := List.mem_map.1 h2
          obtain ⟨y, hy, rfl⟩ := List.mem_map.1 hz
          obtain ⟨i, hi, rfl⟩ := List.mem_iff_getElem.1 hy
          refine ⟨i, by rw [← HN.out]; exact hi, ?_⟩
          rw [List.getD_eq_getElem?_getD, List.getElem?_eq_getElem hi]
          exact ba_ext he
        obtain ⟨i0, hi0, hx0⟩ := HX
        obtain ⟨x, hx⟩ : ∃ x, L.getD k ⟨#[]⟩ = x := ⟨_, rfl⟩
        rw [hx] at g1 hx0
        have HXK := Lib.hid hx
        have e0 := (HB.out.cell (p := ⟨b1, o1 + k, none⟩) hb1).trans g1
        have HG1 := Lib.hid (And.intro hb1 g1)
        have HP := Lib.hid (HPX.out i0 x wr (HBW.out.trans (HB.out.mono HBW.out.size)) hi0 hx0)
        have HI := Lib.hid (And.intro hi0 hx0)
        have HV9 := Lib.hid (fun g h => (World.ownsRow.lt HO.out g h).2)
        clear hkL hb1 g1 hi0 hx0 hx
        go_wp2_with (first
          | (go_at_call 40; (with_reducible refine HP.out.mono ?_); rintro e w5 ⟨b8, o8, c8, N8, O, rfl, q1, hq2, hq3, hq4, q5, q6, q7, q8, q9⟩; have HD := Lib.hid (And.intro q1 (And.intro q5 (And.intro q6 (And.intro q7 q8)))); have HB5 := Lib.hid q9; clear q1 q5 q6 q7 q8 q9 e0; have hq2' : (0 : Int) < (N8 : Int) := (by omega); have e0 := ((HB.out.trans (HB5.out.mono HB.out.size)).cell (p := ⟨b1, o1 + k, none⟩) HG1.out.1).trans HG1.out.2; have HO5 := Lib.hid (own_keep HO.out HB5.out))
          | (at_builtin; refine wpList_append_own_at _ rfl (.tmp 24) (.tmp 31) 22 rfl w1.heap.size 37 k0 _ 2 40 Try.underlying22 hk0 hy0 hy1 hy2 rfl (by decide) _ _ (zvl E) rfl (HO5.out.alloc _) ⟨w5.heap.size, 0, none⟩ 1 1 (zvl [⟨x, some ⟨b8, o8, none⟩, N8, c8, O⟩]) rfl (by rw [zvl_len]; rfl) (zv_src (e := ⟨x, some ⟨b8, o8, none⟩, N8, c8, O⟩) (Blk.new w5 37 _)) (zvl_one _) (by unfold maxLen; omega) (by omega) (by have := HB5.out.size; have := HB.out.size; simp; omega) ?_; intro v4 w6 g1 g2 _ g3; have HO6 := Lib.hid g1; have HG6 := Lib.hid g2; have HG7 := Lib.hid g3; clear g1 g2 g3))
        go_roundw
        case rel =>
          have hsz5 := HB5.out.size
          have hnew : RowOk w5 ⟨x, some ⟨b8, o8, none⟩, N8, c8, O⟩ := ⟨HD.out.1.symm, hq3, hq4, HD.out.2.1, fun a ha => by
            injection ha with ha
            rw [← ha]; exact HD.out.2.2.2.2⟩
          have hapn : Apart v ⟨x, some ⟨b8, o8, none⟩, N8, c8, O⟩ := fun a ha he => by
            injection ha with ha
            rw [← ha] at he
            have h1 := HV9.out b8 he
            have h2 := HD.out.2.2.2.1
            omega
          have hbl5 : Below w5.heap.size w5 (w5.alloc (.cells #[.string x, .slice (some ⟨b8, o8, none⟩) N8 c8] 37)) := below_one w5 _
          refine ⟨k + 1, v4, E ++ [⟨x, some ⟨b8, o8, none⟩, N8, c8, O⟩], rfl, by go_num, by omega, Lib.hid (by rw [List.length_append, HE.out]; rfl), Lib.hid ?_, Lib.hid (by rw [zvl_app]; exact HO6.out), Lib.hid ?_⟩
          · refine below_grown ((HB.out.trans (HB5.out.mono HB.out.size)).trans (hbl5.mono (Nat.le_trans HB.out.size hsz5))) HG6.out (fun j hj => (World.ownsRow.lt HO.out j hj).1) ?_
            have := hbl5.size
            have := HB.out.size
            omega
          · intro j hj
            rw [getD_app, HE.out]
            by_cases hjk : j < k
            · rw [if_pos hjk]
              obtain ⟨r1, r2, r3⟩ := HR.out j hjk
              have hbb := HB5.out.trans (hbl5.mono hsz5)
              exact ⟨r1.app hbb HG6.out r2, Apart.app r1 hbb.size r2 HG7.out, r3⟩
            · obtain rfl : j = k := by omega
              rw [if_neg (Nat.lt_irrefl _), if_pos rfl]
              refine ⟨hnew.app hbl5 HG6.out hapn, Apart.app hnew hbl5.size hapn HG7.out, i0, HI.out.1, by rw [HXK.out]; exact HI.out.2, ?_⟩
              exact HD.out.2.2.1
        case measure => simp [intOf] <;> omega
      · obtain rfl : k = n := by omega
        have hown := HO.out
        obtain ⟨A9, c9, rfl, hc9, hm9, hA9⟩ := own_formN hown
        go_wp2_with fail
        go_ret
        have hlen : (E.map ZV.zm).length = k := by rw [List.length_map, HE.out]
        have hat : ∀ e ∈ E, ∃ j, j < k ∧ e = E.getD j zv0 := fun e he => by
          obtain ⟨j, hj, rfl⟩ := List.mem_iff_getElem.1 he
          exact ⟨j, by rw [← HE.out]; exact hj, by rw [List.getD_eq_getElem?_getD, List.getElem?_eq_getElem hj]; rfl⟩
        have hMg : ∀ j, j < k → (E.map ZV.zm).getD j zm0 = (E.getD j zv0).zm := fun j hj => by
          have : j < E.length := by rw [HE.out]; exact hj
          simp [List.getD_eq_getElem?_getD, List.getElem?_map, List.getElem?_eq_getElem this]
        refine ⟨A9, c9, E.map ZV.zm, by rw [hlen] <;> rfl, by rw [hlen]; exact hc9, hm9, ?_, refMin_fin HV.out (by rw [hlen, HL.out.2.2]) HL.out.1 HL.out.2.1 (fun j hj => ?_), ?_, by rw [hlen, zos_len, HN.out], HBW.out.trans (HB.out.mono HBW.out.size)⟩
        · by_cases h0 : k = 0
          · intro j hj
            rw [hlen] at hj; omega
          · obtain ⟨g, rfl, hgb, hgw⟩ := hA9 (by omega)
            have hvz : VzR wr g E := vz_own hown HE.out
            refine zs_map hvz ?_
            intro e he
            obtain ⟨j, hj, rfl⟩ := hat e he
            exact (HR.out j hj).1
        · have hj' : j < k := by rw [← HL.out.2.2]; exact hj
          obtain ⟨-, -, i, h1, h2, h3⟩ := HR.out j hj'
          rw [hMg j hj', HPF.out]
          exact ⟨i, by rw [HN.out]; exact h1, h2, h3⟩
        · intro z hz
          obtain ⟨e, he, rfl⟩ := List.mem_map.1 hz
          obtain ⟨j, hj, rfl⟩ := hat e he
          obtain ⟨-, -, i, h1, h2, h3⟩ := HR.out j hj
          have h4 := HF.out.at (by rw [HN.out]; exact h1) (rfl : l.getD i zm0 = l.getD i zm0)
          exact ⟨Nat.le_trans h3.len h4.1, by rw [h3.nm]; exact h4.2.1, h3.sz⟩
  · simp only [hz, if_false] at HC ⊢
    go_enter Try.func22, Try.ntmps22
    go_wp2_with (go_at_call 15; (with_reducible refine HC.out.mono ?_); rintro e w1 ⟨rfl, hb1⟩; have HB1 := Lib.hid hb1; clear hb1)
    refine wp_loop_rounds 1 ?_
    rw [rounds_succ]
    go_wp2_with fail
    go_ret
    exact ⟨rfl, HB1.out⟩
end Go.Proofs.Ytflonakoagjmhaa.Zn
