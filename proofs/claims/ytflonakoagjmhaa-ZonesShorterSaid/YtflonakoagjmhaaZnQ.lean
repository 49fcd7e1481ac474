/- Walks of the reference: Find, agrees, Equal. -/
import Derived.Test.YtflonakoagjmhaaZnVm
namespace Go.Proofs.Ytflonakoagjmhaa.Zn
open Go.RowKit Go.Proofs.Ytflonakoagjmhaa Go.Maps

theorem fnd_eq {l : List Zo} {s : Wd} (h : Vld l) (hn : numB s = true) : fnd l s = lk (val (pairs l)) s := by
  unfold fnd
  rw [if_pos ⟨ck_vld.2 h, hn⟩, ixL_ok (ck_vld.2 h)]
set_option maxHeartbeats 4000000 in
theorem refFnd_any (A : Option Addr) (n c : Nat) (l : List Zm) (s : ByteArray) (w : World) (hA : ZsR w A l) (hn : l.length = n) (hc : n ≤ c) (hm : c ≤ maxLen) (hf : Fit l) (hs : s.size ≤ maxLen) :
    Calls Try.prog 17 #[.slice A n c, .string s] w (FndOut (zos l) s.data.toList w) := by
  have HC := Lib.hid (refCheck_any A n c l w hA hn hc hm hf)
  have HV := Lib.hid (fun W => refValid_any s W hs)
  have HFD := Lib.hid (fun (W : World) (h1 : Below w.heap.size w W) (h2 : Vld (zos l)) => refFind_any A n c l s W (hA.below h1) hn hc hm hf hs h2.uniq h2.full)
  clear hA hn hf hs
  unfold FndOut fnd
  obtain ⟨ev, hev⟩ : ∃ ev, ckZ (zos l) = ev := ⟨_, rfl⟩
  have HEV := Lib.hid hev
  obtain ⟨nb, hnb⟩ : ∃ b, numB s.data.toList = b := ⟨_, rfl⟩
  rw [hev, hnb]
  rw [hev] at HC
  rw [hnb] at HV
  clear hev hnb
  by_cases hz : ev = 0
  · subst hz
    cases nb
    · simp only [true_and, Bool.false_eq_true, if_false]
      go_enter Try.func17, Try.ntmps17
      go_wp2_with (first
        | (go_at_call 12; (with_reducible refine HC.out.mono ?_); rintro e w1 ⟨rfl, hb⟩)
        | (go_at_call 23; (with_reducible refine (HV.out _).mono ?_); rintro e w2 ⟨rfl, rfl⟩))
      go_ret2
      exact ⟨⟨#[]⟩, rfl, rfl, by decide, hb⟩
    · simp only [true_and, if_true]
      have HVL := Lib.hid (ck_vld.1 HEV.out)
      rw [ixL_ok HEV.out]
      go_enter Try.func17, Try.ntmps17
      go_wp2_with (first
        | (go_at_call 12; (with_reducible refine HC.out.mono ?_); rintro e w1 ⟨rfl, hb⟩)
        | (go_at_call 23; (with_reducible refine (HV.out _).mono ?_); rintro e w2 ⟨rfl, rfl⟩)
        | (go_at_call 30; (with_reducible refine (HFD.out _ hb HVL.out).mono ?_); rintro e w3 ⟨v, rfl, hv, hvs, rfl⟩))
      go_ret2
      exact ⟨v, by show Ending.returned (.tuple #[.string v, .bool !v.toList.isEmpty]) = _; rw [ByteArray.toList_eq, hv], hv, hvs, hb⟩
  · simp only [hz, if_false, false_and]
    have d0 : (ev == 0) = false := by rw [beq_eq_false_iff_ne]; exact hz
    clear HV HFD
    go_enter Try.func17, Try.ntmps17
    go_wp2_with (go_at_call 12; (with_reducible refine HC.out.mono ?_); rintro e w1 ⟨rfl, hb⟩)
    go_ret2
    exact ⟨⟨#[]⟩, rfl, rfl, by decide, hb⟩
/-- Two maps give these texts the same zone. -/
def sameL (a b : List Zo) (ps : List Wd) : Bool := ps.all fun p => lk (val (pairs a)) p == lk (val (pairs b)) p
theorem fsts_pre (l : List Zm) (i j : Nat) : (pre l i j).map (·.1) = fsts (zos (l.take i)) ++ ((l.getD i zm0).ps.take j).map fun p => p.data.toList := by
  unfold pre
  rw [List.map_append, fst_mk]; rfl
theorem sameL_no {a b : List Zo} {ps : List Wd} {p : Wd} (h : p ∈ ps) (hne : (lk (val (pairs a)) p == lk (val (pairs b)) p) = false) : sameL a b ps = false := by
  unfold sameL
  rw [List.all_eq_false]
  exact ⟨p, h, by rw [hne]; decide⟩
theorem mem_fsts {l : List Zm} {i j : Nat} (hi : i < l.length) (hj : j < (l.getD i zm0).ps.length) : ((l.getD i zm0).ps.getD j ⟨#[]⟩).data.toList ∈ fsts (zos l) := by
  unfold fsts
  rw [List.mem_map]
  refine ⟨(_, (l.getD i zm0).nm.data.toList), mem_pairs.2 ⟨(l.getD i zm0).zo, ?_, rfl, ?_⟩, rfl⟩
  · unfold zos
    rw [List.getD_eq_getElem?_getD, List.getElem?_eq_getElem hi]
    exact List.mem_map.2 ⟨_, List.getElem_mem hi, rfl⟩
  · unfold Zm.zo
    rw [List.getD_eq_getElem?_getD (l := (l.getD i zm0).ps), List.getElem?_eq_getElem hj]
    exact List.mem_map.2 ⟨_, List.getElem_mem hj, rfl⟩
set_option maxRecDepth 100000 in
set_option maxHeartbeats 8000000 in
theorem agrees_any (A B : Option Addr) (n c m d : Nat) (l q : List Zm) (w : World) (hA : ZsR w A l) (hn : l.length = n) (hc : n ≤ c) (hm : c ≤ maxLen) (hf : Fit l) (hB : ZsR w B q) (hm1 : q.length = m) (hd : m ≤ d) (hdm : d ≤ maxLen) (hg : Fit q) (hV : Vld (zos l)) (hW : Vld (zos q)) :
    Calls Try.prog 34 #[.slice A n c, .slice B m d] w fun e w' => e = .returned (.bool (sameL (zos l) (zos q) (fsts (zos l)))) ∧ w' = w := by
  have hmm := hm
  unfold maxLen at hm
  have H1 := Lib.hid (fun (s : ByteArray) hs => refFind_any A n c l s w hA hn hc hmm hf hs hV.uniq hV.full)
  have H2 := Lib.hid (fun (s : ByteArray) hs => refFind_any B m d q s w hB hm1 hd hdm hg hs hW.uniq hW.full)
  have HA := Lib.hid hA; have HN := Lib.hid hn; have HF := Lib.hid hf
  clear hA hB hn hm1 hf hg hV hW hmm
  obtain ⟨R, hR⟩ : ∃ R, sameL (zos l) (zos q) (fsts (zos l)) = R := ⟨_, rfl⟩
  rw [hR]
  have HR := Lib.hid hR
  clear hR
  go_enter Try.func34, Try.ntmps34
  go_wp2_with fail
  go_loopw [5] (fun iv wr => ∃ i : Nat, iv = .int .i64 i ∧ i ≤ n ∧ wr = w ∧ Hid (sameL (zos l) (zos q) (fsts (zos (l.take i))) = true)) (fun iv _ => n - (intOf iv).toNat)
  case atStart => exact ⟨0, rfl, by omega, rfl, Lib.hid rfl⟩
  case round =>
    obtain ⟨i, rfl, hi, rfl, HO⟩ := hrel
    by_cases hlt : i < n
    · have hil : i < l.length := by rw [HN.out]; exact hlt
      have hlt' : (i : Int) < (n : Int) := by omega
      have hi0 : (0 : Int) ≤ (i : Int) := by omega
      obtain ⟨bk, off, P, c2, rfl, hbl, g0, g1, g2, g3, g4, g5⟩ := HA.out i hil
      have HFZ := Lib.hid (HF.out.at hil rfl)
      have HPF := Lib.hid (pre_full l i hil)
      have HPR := Lib.hid (fun j hj => pre_succ l i j hj)
      have HMF := Lib.hid (fun j hj => mem_fsts (l := l) (i := i) (j := j) hil hj)
      have HO0 : Hid (sameL (zos l) (zos q) ((pre l i 0).map (·.1)) = true) := Lib.hid (by rw [pre_zero]; exact HO.out)
      obtain ⟨z, hz⟩ : ∃ z, l.getD i zm0 = z := ⟨_, rfl⟩
      rw [hz] at g1 g4 HPF HPR HFZ HMF
      obtain ⟨x, ss⟩ := z
      simp only at g1 g4 HPF HPR HFZ HMF
      obtain ⟨L, hL⟩ : ∃ L, ss.length = L := ⟨_, rfl⟩
      rw [hL] at g1 HPF HPR HMF
      have HL := Lib.hid hL; have HP := Lib.hid g4
      have hLm : L ≤ 9223372036854775807 := by have := HFZ.out.1; omega
      clear g0 g2 g3 g4 g5 hz hL hil HO hbl
      go_wp2_with fail
      go_loopw [6] (fun jv w9 => ∃ j : Nat, jv = .int .i64 j ∧ j ≤ L ∧ w9 = wr ∧ Hid (sameL (zos l) (zos q) ((pre l i j).map (·.1)) = true)) (fun jv _ => L - (intOf jv).toNat)
      case atStart => exact ⟨0, rfl, by omega, rfl, HO0⟩
      case round =>
        obtain ⟨j, rfl, hj, rfl, HJ⟩ := hrel
        by_cases hjl : j < L
        · have hjl' : (j : Int) < (L : Int) := by omega
          have hj0 : (0 : Int) ≤ (j : Int) := by omega
          have hjs : j < ss.length := by rw [HL.out]; exact hjl
          obtain ⟨bp, offp, rfl, hbp, gp⟩ := HP.out j hjs
          obtain ⟨p, hp⟩ : ∃ p, ss.getD j ⟨#[]⟩ = p := ⟨_, rfl⟩
          have hps2 := HPR.out j hjl
          have hmf := HMF.out j hjl
          rw [hp] at gp hps2 hmf
          have hps := HFZ.out.2.2 p (by rw [← hp, List.getD_eq_getElem?_getD, List.getElem?_eq_getElem hjs]; exact List.getElem_mem _)
          have K1 := Lib.hid (H1.out p hps)
          have K2 := Lib.hid (H2.out p hps)
          obtain ⟨v, hv⟩ : ∃ v, (lk (val (pairs (zos l))) p.data.toList == lk (val (pairs (zos q))) p.data.toList) = v := ⟨_, rfl⟩
          have HVV := Lib.hid hv
          have HMM := Lib.hid hmf
          have HNX : Hid (sameL (zos l) (zos q) ((pre l i (j + 1)).map (·.1)) = v) := Lib.hid (by
            rw [hps2, List.map_append]
            unfold sameL
            rw [List.all_append]
            have h := HJ.out
            unfold sameL at h
            rw [h, Bool.true_and]
            simp only [List.map_cons, List.map_nil, List.all_cons, List.all_nil, Bool.and_true]
            exact hv)
          clear hp hps2 hps hmf hjs hbp hv
          cases v
          · have HT : Hid (R = false) := Lib.hid (by rw [← HR.out]; exact sameL_no HMM.out HVV.out)
            go_wp2_with (first
              | (go_at_call 30; (with_reducible refine K1.out.mono ?_); rintro e w1 ⟨v1, rfl, hv1, -, rfl⟩)
              | (go_at_call 30; (with_reducible refine K2.out.mono ?_); rintro e w1 ⟨v2, rfl, hv2, -, rfl⟩; have hne : (v1.toList == v2.toList) = false := by rw [sEq, hv1, hv2]; exact HVV.out))
            go_ret
            exact ⟨ret_bool HT.out.symm, rfl⟩
          · go_wp2_with (first
              | (go_at_call 30; (with_reducible refine K1.out.mono ?_); rintro e w1 ⟨v1, rfl, hv1, -, rfl⟩)
              | (go_at_call 30; (with_reducible refine K2.out.mono ?_); rintro e w1 ⟨v2, rfl, hv2, -, rfl⟩; have hne : (v1.toList == v2.toList) = true := by rw [sEq, hv1, hv2]; exact HVV.out))
            go_roundw
            case rel => exact ⟨j + 1, by go_num, by omega, by trivial, HNX⟩
            case measure => simp [intOf] <;> omega
        · obtain rfl : j = L := by omega
          have HB2 : Hid (sameL (zos l) (zos q) (fsts (zos (l.take (i + 1)))) = true) := Lib.hid (by
            show sameL _ _ ((pairs (zos (l.take (i + 1)))).map (·.1)) = true
            rw [← HPF.out]; exact HJ.out)
          go_wp2_with fail
          go_roundw
          case rel => exact ⟨i + 1, by go_num, by omega, by trivial, HB2⟩
          case measure => simp [intOf] <;> omega
    · obtain rfl : i = n := by omega
      have HT : Hid (R = true) := Lib.hid (by
        have h := HO.out
        rw [List.take_of_length_le (by rw [HN.out]; exact Nat.le_refl _)] at h
        rw [← HR.out]; exact h)
      go_wp2_with fail
      go_ret
      exact ⟨ret_bool HT.out.symm, rfl⟩
/-- Whether two lists are equal. -/
def eqZ (a b : List Zo) : Bool := decide (ckZ a = 0) && decide (ckZ b = 0) && sameL a b (fsts a) && sameL b a (fsts b)
set_option maxHeartbeats 4000000 in
theorem refEqual_any (A B : Option Addr) (n c m d : Nat) (l q : List Zm) (w : World) (hA : ZsR w A l) (hn : l.length = n) (hc : n ≤ c) (hm : c ≤ maxLen) (hf : Fit l) (hB : ZsR w B q) (hm1 : q.length = m) (hd : m ≤ d) (hdm : d ≤ maxLen) (hg : Fit q) :
    Calls Try.prog 19 #[.slice A n c, .slice B m d] w fun e w' => e = .returned (.bool (eqZ (zos l) (zos q))) ∧ Below w.heap.size w w' := by
  have HC := Lib.hid (refCheck_any A n c l w hA hn hc hm hf)
  have HD := Lib.hid (fun (W : World) (h : Below w.heap.size w W) => refCheck_any B m d q W (hB.below h) hm1 hd hdm hg)
  have HG1 := Lib.hid (fun (W : World) (h : Below w.heap.size w W) hV hW => agrees_any A B n c m d l q W (hA.below h) hn hc hm hf (hB.below h) hm1 hd hdm hg hV hW)
  have HG2 := Lib.hid (fun (W : World) (h : Below w.heap.size w W) hV hW => agrees_any B A m d n c q l W (hB.below h) hm1 hd hdm hg (hA.below h) hn hc hm hf hW hV)
  clear hA hn hf hB hm1 hg
  unfold eqZ
  obtain ⟨e1, h1⟩ : ∃ e, ckZ (zos l) = e := ⟨_, rfl⟩
  obtain ⟨e2, h2⟩ : ∃ e, ckZ (zos q) = e := ⟨_, rfl⟩
  have HE1 := Lib.hid h1; have HE2 := Lib.hid h2
  rw [h1, h2]
  rw [h1] at HC
  rw [h2] at HD
  clear h1 h2
  by_cases z1 : e1 = 0
  · subst z1
    by_cases z2 : e2 = 0
    · subst z2
      have HV1 := Lib.hid (ck_vld.1 HE1.out); have HV2 := Lib.hid (ck_vld.1 HE2.out)
      obtain ⟨s1, k1⟩ : ∃ e, sameL (zos l) (zos q) (fsts (zos l)) = e := ⟨_, rfl⟩
      obtain ⟨s2, k2⟩ : ∃ e, sameL (zos q) (zos l) (fsts (zos q)) = e := ⟨_, rfl⟩
      rw [k1, k2]
      rw [k1] at HG1
      rw [k2] at HG2
      clear k1 k2
      cases s1 <;> cases s2
      all_goals
        go_enter Try.func19, Try.ntmps19
        go_wp2_with (first
          | (go_at_call 12; (with_reducible refine HC.out.mono ?_); rintro e w1 ⟨rfl, hb⟩; have hs := hb.size)
          | (go_at_call 12; (with_reducible refine (HD.out _ hb).mono ?_); rintro e w2 ⟨rfl, hb2⟩; have hb3 := hb.trans (hb2.mono hs))
          | (go_at_call 34; (with_reducible refine (HG1.out _ hb3 HV1.out HV2.out).mono ?_); rintro e w3 ⟨rfl, rfl⟩)
          | (go_at_call 34; (with_reducible refine (HG2.out _ hb3 HV1.out HV2.out).mono ?_); rintro e w3 ⟨rfl, rfl⟩))
        go_ret
        exact ⟨rfl, hb3⟩
    · have d2 : (e2 == 0) = false := by rw [beq_eq_false_iff_ne]; exact z2
      have q2 : decide (e2 = 0) = false := decide_eq_false z2
      rw [q2]
      simp only [Bool.and_false, Bool.false_and]
      go_enter Try.func19, Try.ntmps19
      go_wp2_with (first
        | (go_at_call 12; (with_reducible refine HC.out.mono ?_); rintro e w1 ⟨rfl, hb⟩; have hs := hb.size)
        | (go_at_call 12; (with_reducible refine (HD.out _ hb).mono ?_); rintro e w2 ⟨rfl, hb2⟩; have hb3 := hb.trans (hb2.mono hs)))
      go_ret
      exact ⟨rfl, hb3⟩
  · have d2 : (e1 == 0) = false := by rw [beq_eq_false_iff_ne]; exact z1
    have q2 : decide (e1 = 0) = false := decide_eq_false z1
    rw [q2]
    simp only [Bool.false_and]
    go_enter Try.func19, Try.ntmps19
    go_wp2_with (go_at_call 12; (with_reducible refine HC.out.mono ?_); rintro e w1 ⟨rfl, hb⟩; have hs := hb.size)
    go_ret
    exact ⟨rfl, hb⟩
end Go.Proofs.Ytflonakoagjmhaa.Zn
