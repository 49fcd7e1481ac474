/- Walks of the reference: the error of a zone, the error of a list. -/
import Derived.Test.YtpkmnefbofhjbaaGreatZnRe
import Derived.Test.YtpkmnefbofhjbaaGreatZnNr
namespace Go.Proofs.YtpkmnefbofhjbaaGreat.Zn
open Go.RowKit Go.Proofs.YtpkmnefbofhjbaaGreat Go.Maps

theorem refName_is (s : ByteArray) (v : Bool) (h : nmB s.data.toList = v) (w : World) (hs : s.size ≤ maxLen) : Calls Tryz.prog 87 #[.string s] w fun e w' => e = .returned (.bool v) ∧ Below w.heap.size w w' := by
  rw [← h, ← nmB_eq]; exact Pd.refName_any s w hs
theorem any_snoc {l : List Zm} {k : Nat} {y : Wd} (h : k < l.length) : ((zos (l.take (k + 1))).any fun e => e.nm == y) = (((zos (l.take k)).any fun e => e.nm == y) || ((l.getD k zm0).nm.data.toList == y)) := by
  rw [zos_take h rfl, List.any_append]; simp [Zm.zo]
theorem any_more {l : List Zm} {i k : Nat} {y : Wd} (hk : k < i) (h : k < l.length) (he : ((l.getD k zm0).nm.data.toList == y) = true) : ((zos (l.take i)).any fun e => e.nm == y) = true := by
  rw [zos_any, List.any_eq_true]
  refine ⟨l.getD k zm0, ?_, he⟩
  rw [List.mem_take_iff_getElem]
  exact ⟨k, by omega, by simp [List.getD, List.getElem?_eq_getElem h]⟩
theorem drop_ps {ps : List ByteArray} {k : Nat} (h : k < ps.length) : (ps.drop k).map (fun p => p.data.toList) = (ps.getD k ⟨#[]⟩).data.toList :: (ps.drop (k + 1)).map (fun p => p.data.toList) := by
  rw [List.drop_eq_getElem_cons h, List.map_cons, List.getD_eq_getElem?_getD, List.getElem?_eq_getElem h]; rfl
set_option maxRecDepth 100000 in
set_option maxHeartbeats 8000000 in
theorem zone_any (A : Option Addr) (n c i : Nat) (l : List Zm) (w : World) (hA : ZsR w A l) (hn : l.length = n) (hc : n ≤ c) (hm : c ≤ maxLen) (hf : Fit l) (hi : i < n) :
    Calls Tryz.prog 86 #[.slice A n c, .int .i64 i] w fun e w' => e = .returned (.int .i64 (zE (zos (l.take i)) (l.getD i zm0).zo)) ∧ Below w.heap.size w w' := by
  have hmm := hm
  unfold maxLen at hm
  have HA := Lib.hid hA; have HN := Lib.hid hn; have HM := Lib.hid hmm
  have hil : i < l.length := by omega
  obtain ⟨bk, off, P, c2, rfl, hbl, g0, g1, g2, g3, g4, g5⟩ := hA i hil
  have hfz := hf.at hil rfl
  obtain ⟨z, hz⟩ : ∃ z, l.getD i zm0 = z := ⟨_, rfl⟩
  rw [hz] at g0 g1 g2 g4 hfz ⊢
  have HZ := Lib.hid hz
  have HFZ := Lib.hid hfz
  obtain ⟨x, ss⟩ := z
  simp only at g0 g1 g2 g4 HFZ
  obtain ⟨L, hL⟩ : ∃ L, ss.length = L := ⟨_, rfl⟩
  rw [hL] at g1
  have HL := Lib.hid hL
  have hLm : L ≤ 9223372036854775807 := by unfold maxLen at g3; omega
  have HP := Lib.hid g4
  have HBK := Lib.hid hbl
  have hBn := Blk.new w 57 #[.string x, .slice P L c2]
  have hbn : Below w.heap.size w (w.alloc (.cells #[.string x, .slice P L c2] 57)) := (Below.refl _ _).alloc (Nat.le_refl _) _
  have HBn := Lib.hid hBn; have HBB := Lib.hid hbn
  have c0 := hBn.cell 0
  have hin : (i : Int) < (n : Int) := by omega
  have hi0 : (0 : Int) ≤ (i : Int) := by omega
  clear hA hn hmm hf hil hfz hz hL g2 g3 g4 g5 hbl hbn
  unfold zE
  obtain ⟨ex, hex⟩ : ∃ v, ((zos (l.take i)).any fun e => e.nm == (Zm.zo ⟨x, ss⟩).nm) = v := ⟨_, rfl⟩
  rw [hex]
  have HEX := Lib.hid hex
  have hsn := HBB.out.size
  cases hv : nmB x.data.toList
  · rw [if_pos (show nmB (Zm.zo ⟨x, ss⟩).nm = false from hv)]
    have HN1 := Lib.hid (fun W => refName_is x _ hv W HFZ.out.2.1)
    clear hv hBn hex
    go_enter Tryz.func86, Tryz.ntmps86
    go_wp2_with (go_at_call 87; (with_reducible refine (HN1.out _).mono ?_); rintro e w1 ⟨rfl, hb1⟩; have hb2 := HBB.out.trans (hb1.mono hsn))
    go_ret
    exact ⟨rfl, hb2⟩
  · rw [if_neg (by rw [show nmB (Zm.zo ⟨x, ss⟩).nm = true from hv]; decide)]
    have HN1 := Lib.hid (fun W => refName_is x _ hv W HFZ.out.2.1)
    obtain ⟨R, hR⟩ : ∃ R, (if ex = true then (10 : Int) else (adZ (pairs (zos (l.take i))) (Zm.zo ⟨x, ss⟩)).1) = R := ⟨_, rfl⟩
    rw [hR]
    have HR := Lib.hid hR
    clear hv hBn hex hR
    go_enter Tryz.func86, Tryz.ntmps86
    go_wp2_with (go_at_call 87; (with_reducible refine (HN1.out _).mono ?_); rintro e w1 ⟨rfl, hb1⟩; have HB2 := Lib.hid (HBB.out.trans (hb1.mono hsn)); have HBL := Lib.hid (HBn.out.below hb1 HBn.out.lt); clear hb1 c0 g0 g1)
    go_loopw [6] (fun kv wr => ∃ k : Nat, kv = .int .i64 k ∧ k ≤ i ∧ Below w.heap.size w wr ∧ Hid (Blk wr w.heap.size 57 #[.string x, .slice P L c2]) ∧ Hid (((zos (l.take k)).any fun e => e.nm == x.data.toList) = false)) (fun kv _ => i - (intOf kv).toNat)
    case atStart => exact ⟨0, rfl, by omega, HB2.out, HBL, Lib.hid rfl⟩
    case round =>
      obtain ⟨k, rfl, hk, hb, HBW, HO⟩ := hrel
      obtain ⟨d0, d1⟩ := HBW.out.two
      by_cases hlt : k < i
      · have hlt' : (k : Int) < (i : Int) := by omega
        have hkn : (k : Int) < (n : Int) := by omega
        have hk0 : (0 : Int) ≤ (k : Int) := by omega
        obtain ⟨bk', off', Q, c3, he, -, g0, -⟩ := HA.out k (by rw [HN.out]; omega)
        obtain ⟨rfl, rfl⟩ : bk = bk' ∧ off = off' := by injection he with he; injection he with h1 h2; exact ⟨h1, h2⟩
        have e0 := (hb.cell (p := ⟨bk, off + k * 2, none⟩) HBK.out).trans g0
        obtain ⟨y, hy⟩ : ∃ y, (l.getD k zm0).nm = y := ⟨_, rfl⟩
        rw [hy] at e0
        have hsn2 := any_snoc (l := l) (k := k) (y := x.data.toList) (by rw [HN.out]; omega)
        rw [HO.out, hy, Bool.false_or] at hsn2
        have hmo := fun h => any_more (l := l) (i := i) (k := k) (y := x.data.toList) hlt (by rw [HN.out]; omega) h
        rw [hy] at hmo
        obtain ⟨v, hv⟩ : ∃ v, (y.toList == x.toList) = v := ⟨_, rfl⟩
        rw [← sEq, hv] at hsn2 hmo
        have HS := Lib.hid hsn2; have HMO := Lib.hid hmo
        clear g0 he hy hsn2 hmo
        cases v
        · go_wp2_with (first | go_region)
          go_roundw
          case rel => exact ⟨k + 1, by go_num, by omega, by first | exact hb | exact below_drewN hb _, HBW, HS⟩
          case measure => simp [intOf] <;> omega
        · have HT : Hid (R = 10) := Lib.hid (by
            have h1 := HMO.out rfl
            have h2 : ex = true := by rw [← HEX.out]; exact h1
            rw [← HR.out, if_pos h2])
          go_wp2_with (first | go_region)
          go_ret
          exact ⟨ret_int HT.out.symm, by first | exact hb | exact below_drewN hb _⟩
      · obtain rfl : k = i := by omega
        have HE0 : Hid (R = (adZ (pairs (zos (l.take k))) (Zm.zo ⟨x, ss⟩)).1) := Lib.hid (by
          have h1 := HO.out
          have h2 : ex = false := by rw [← HEX.out]; exact h1
          rw [← HR.out, if_neg (by rw [h2]; decide)])
        have hzl : (Zm.zo ⟨x, ss⟩).ps.length = L := by have := HL.out; simpa [Zm.zo] using this
        clear HO HR
        by_cases h0 : L = 0
        · have HZ0 : Hid (R = 8) := Lib.hid (by rw [HE0.out]; unfold adZ; rw [if_pos (by rw [hzl]; exact h0)])
          have q0 : ((L : Int) == 0) = true := by rw [beq_iff_eq]; omega
          clear hzl h0
          go_wp2_with fail
          go_ret
          exact ⟨ret_int HZ0.out.symm, hb⟩
        have q0 : ((L : Int) == 0) = false := by rw [beq_eq_false_iff_ne]; omega
        by_cases h64 : 64 < L
        · have HZ0 : Hid (R = 5) := Lib.hid (by rw [HE0.out]; unfold adZ; rw [if_neg (by rw [hzl]; exact h0), if_pos (by rw [hzl]; exact h64)])
          have q1 : decide ((64 : Int) < (L : Int)) = true := decide_eq_true (by omega)
          clear hzl h0 h64
          go_wp2_with fail
          go_ret
          exact ⟨ret_int HZ0.out.symm, hb⟩
        have q1 : decide ((64 : Int) < (L : Int)) = false := decide_eq_false (by omega)
        have HEP : Hid (R = (adP x.data.toList (pairs (zos (l.take k))) (ss.map fun p => p.data.toList)).1) := Lib.hid (by rw [HE0.out]; unfold adZ; rw [if_neg (by rw [hzl]; exact h0), if_neg (by rw [hzl]; exact h64)]; rfl)
        have HST : Hid ((adP x.data.toList (pre l k 0) ((ss.drop 0).map fun p => p.data.toList)).1 = R) := Lib.hid (by rw [pre_zero, HEP.out]; rfl)
        clear hzl h0 h64 HE0 HEP
        go_wp2_with fail
        clear d0 d1 q0 q1
        go_loopw [7] (fun jv w9 => ∃ j : Nat, jv = .int .i64 j ∧ j ≤ L ∧ Below w.heap.size w w9 ∧ Hid (Blk w9 w.heap.size 57 #[.string x, .slice P L c2]) ∧ Hid ((adP x.data.toList (pre l k j) ((ss.drop j).map fun p => p.data.toList)).1 = R)) (fun jv _ => L - (intOf jv).toNat)
        case atStart => exact ⟨0, rfl, by omega, hb, HBW, HST⟩
        case round =>
          obtain ⟨j, rfl, hj, hb9, HBX, HJ⟩ := hrel
          obtain ⟨d0, d1⟩ := HBX.out.two
          by_cases hjl : j < L
          · have hjl' : (j : Int) < (L : Int) := by omega
            have hj0 : (0 : Int) ≤ (j : Int) := by omega
            obtain ⟨bp, offp, rfl, hbp, gp⟩ := HP.out j (by rw [HL.out]; exact hjl)
            obtain ⟨p, hp⟩ : ∃ p, ss.getD j ⟨#[]⟩ = p := ⟨_, rfl⟩
            rw [hp] at gp
            have e2 := (hb9.cell (p := ⟨bp, offp + j, none⟩) hbp).trans gp
            have hps := HFZ.out.2.2 p (by
              rw [← hp, List.getD_eq_getElem?_getD, List.getElem?_eq_getElem (by rw [HL.out]; exact hjl)]
              exact List.getElem_mem _)
            have HVA := Lib.hid (fun W => refValid_any p W hps)
            have HEA := Lib.hid (fun (W : World) (hbw : Below w.heap.size w W) => earlier_any (some ⟨bk, off, none⟩) n c k j l p W (HA.out.below hbw) HN.out hc HM.out hi (by rw [HZ.out]; simp only; rw [HL.out]; exact hjl) (by rw [HZ.out]; exact hp))
            have hj1 := HJ.out
            rw [drop_ps (by rw [HL.out]; exact hjl), hp, adP] at hj1
            have hps2 := pre_succ l k j (by rw [HZ.out]; simp only; rw [HL.out]; exact hjl)
            rw [HZ.out] at hps2
            simp only at hps2
            rw [hp] at hps2
            have HPS := Lib.hid hps2
            obtain ⟨nb, hnb⟩ : ∃ b, numB p.data.toList = b := ⟨_, rfl⟩
            obtain ⟨er, her⟩ : ∃ b, anyP (pre l k j) p.data.toList = b := ⟨_, rfl⟩
            rw [val_any, her, hnb] at hj1
            rw [hnb] at HVA
            rw [her] at HEA
            have HJ1 := Lib.hid hj1
            clear gp hbp hp hj1 hps hps2 hnb her
            cases nb
            · have HT : Hid (R = 12) := Lib.hid (by have h := HJ1.out; rw [if_pos rfl] at h; exact h.symm)
              go_wp2_with (go_at_call 108; (with_reducible refine (HVA.out _).mono ?_); rintro e w1 ⟨rfl, rfl⟩)
              go_ret
              exact ⟨ret_int HT.out.symm, hb9⟩
            · cases er
              · have HT : Hid ((adP x.data.toList (pre l k (j + 1)) ((ss.drop (j + 1)).map fun p => p.data.toList)).1 = R) := Lib.hid (by have h := HJ1.out; rw [if_neg (by decide), if_neg (by decide)] at h; rw [HPS.out]; exact h)
                have hs9 := hb9.size
                go_wp2_with (first
                  | (go_at_call 108; (with_reducible refine (HVA.out _).mono ?_); rintro e w1 ⟨rfl, rfl⟩)
                  | (go_at_call 109; (with_reducible refine (HEA.out _ hb9).mono ?_); rintro e w1 ⟨rfl, hb1⟩; have hb10 := hb9.trans (hb1.mono hs9); have HBY := Lib.hid (HBX.out.below hb1 HBX.out.lt); clear hb1))
                go_roundw
                case rel => exact ⟨j + 1, by go_num, by omega, hb10, HBY, HT⟩
                case measure => simp [intOf] <;> omega
              · have HT : Hid (R = 10) := Lib.hid (by have h := HJ1.out; rw [if_neg (by decide), if_pos rfl] at h; exact h.symm)
                have hs9 := hb9.size
                go_wp2_with (first
                  | (go_at_call 108; (with_reducible refine (HVA.out _).mono ?_); rintro e w1 ⟨rfl, rfl⟩)
                  | (go_at_call 109; (with_reducible refine (HEA.out _ hb9).mono ?_); rintro e w1 ⟨rfl, hb1⟩; have hb10 := hb9.trans (hb1.mono hs9); clear hb1))
                go_ret
                exact ⟨ret_int HT.out.symm, hb10⟩
          · obtain rfl : j = L := by omega
            have HT : Hid (R = 0) := Lib.hid (by
              have h := HJ.out
              rw [List.drop_eq_nil_of_le (by rw [HL.out]; exact Nat.le_refl _)] at h
              exact h.symm)
            go_wp2_with fail
            go_ret
            exact ⟨ret_int HT.out.symm, hb9⟩
set_option maxRecDepth 100000 in
set_option maxHeartbeats 8000000 in
theorem refCheck_any (A : Option Addr) (n c : Nat) (l : List Zm) (w : World) (hA : ZsR w A l) (hn : l.length = n) (hc : n ≤ c) (hm : c ≤ maxLen) (hf : Fit l) :
    Calls Tryz.prog 44 #[.slice A n c] w fun e w' => e = .returned (.int .i64 (ckZ (zos l))) ∧ Below w.heap.size w w' := by
  have hmm := hm
  unfold maxLen at hm
  obtain ⟨R, hR⟩ : ∃ R, ckZ (zos l) = R := ⟨_, rfl⟩
  rw [hR]
  unfold ckZ ixL at hR
  rw [zos_len, hn] at hR
  by_cases h64 : 64 < n
  · have d1 : decide ((64 : Int) < (n : Int)) = true := decide_eq_true (by omega)
    rw [if_pos h64] at hR
    subst hR
    clear hA hn h64 hf
    go_enter Tryz.func44, Tryz.ntmps44
    go_wp2
    go_ret
    exact ⟨rfl, Below.refl _ _⟩
  · have d1 : decide ((64 : Int) < (n : Int)) = false := decide_eq_false (by omega)
    rw [if_neg h64] at hR
    have HR := Lib.hid hR
    have HA := Lib.hid hA; have HN := Lib.hid hn; have HM := Lib.hid hmm; have HF := Lib.hid hf
    clear hA hn hmm hf h64 hR
    go_enter Tryz.func44, Tryz.ntmps44
    go_wp2_with fail
    clear d1
    go_loopw [3] (fun kv wr => ∃ k : Nat, kv = .int .i64 k ∧ k ≤ n ∧ Below w.heap.size w wr ∧ Hid ((ixF (zos (l.take k)) (pairs (zos (l.take k))) (zos (l.drop k))).1 = R)) (fun kv _ => n - (intOf kv).toNat)
    case atStart => exact ⟨0, rfl, by omega, Below.refl _ _, Lib.hid (by rw [← HR.out]; rfl)⟩
    case round =>
      obtain ⟨k, rfl, hk, hb, HO⟩ := hrel
      have hs := hb.size
      by_cases hlt : k < n
      · have hlt' : (k : Int) < (n : Int) := by omega
        have hkl : k < l.length := by rw [HN.out]; exact hlt
        have HZ := Lib.hid (zone_any A n c k l wr (HA.out.below hb) HN.out hc HM.out HF.out hlt)
        have ho := HO.out
        rw [zos_drop hkl rfl, ixF_step] at ho
        have HT := Lib.hid (zos_take hkl (rfl : l.getD k zm0 = l.getD k zm0))
        obtain ⟨ev, hev⟩ : ∃ ev, zE (zos (l.take k)) (l.getD k zm0).zo = ev := ⟨_, rfl⟩
        rw [hev] at ho HZ
        clear hkl hev HO
        by_cases hz : ev = 0
        · subst hz
          rw [if_pos rfl] at ho
          have HO2 : Hid ((ixF (zos (l.take (k + 1))) (pairs (zos (l.take (k + 1)))) (zos (l.drop (k + 1)))).1 = R) := Lib.hid (by rw [HT.out]; exact ho)
          clear ho
          go_wp2_with (go_at_call 86; (with_reducible refine HZ.out.mono ?_); rintro e w1 ⟨rfl, hb1⟩; have hb2 := hb.trans (hb1.mono hs))
          go_roundw
          case rel => exact ⟨k + 1, by go_num, by omega, hb2, HO2⟩
          case measure => simp [intOf] <;> omega
        · rw [if_neg hz] at ho
          have HO2 := Lib.hid ho
          have hzq : (ev == 0) = false := by simp [hz]
          clear ho hz
          go_wp2_with (go_at_call 86; (with_reducible refine HZ.out.mono ?_); rintro e w1 ⟨rfl, hb1⟩; have hb2 := hb.trans (hb1.mono hs))
          go_ret
          exact ⟨ret_int HO2.out, hb2⟩
      · obtain rfl : k = n := by omega
        have HT : Hid (R = 0) := Lib.hid (by
          have h := HO.out
          rw [List.drop_eq_nil_of_le (by rw [HN.out]; exact Nat.le_refl _)] at h
          exact h.symm)
        go_wp2_with fail
        go_ret
        exact ⟨ret_int HT.out.symm, hb⟩
end Go.Proofs.YtpkmnefbofhjbaaGreat.Zn
