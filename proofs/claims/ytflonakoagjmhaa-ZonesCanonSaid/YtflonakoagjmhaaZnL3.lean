/- Walk of the law on the minimal list. -/
import Derived.Test.YtflonakoagjmhaaZnCa
namespace Go.Proofs.Ytflonakoagjmhaa
open Go.RowKit Go.Lib Zn
set_option maxRecDepth 100000 in
set_option maxHeartbeats 16000000 in
theorem walkZonesCanon (A : Option Addr) (n c : Nat) (l : List Zm) (B : Option Addr) (m d : Nat) (q : List Zm) (s : ByteArray) (w : World) (hA : ZsR w A l) (hn : l.length = n) (hc : n ≤ c) (hm : c ≤ maxLen) (hg : Big l) (hB : ZsR w B q) (hm1 : q.length = m) (hd : m ≤ d) (hdm : d ≤ maxLen) (hgq : Big q) (hs : s.size ≤ maxLen) :
    Calls Try.prog 7 #[.slice A n c, .slice B m d, .string s] w fun e w' => e = .returned (.bool true) ∧ Below w.heap.size w w' := by
  obtain ⟨v, hv⟩ := few_dec l
  obtain ⟨u, hu⟩ := few_dec q
  have HF := Lib.hid (few_any A n c l w hA hn hc hm hg v hv)
  have HG := Lib.hid (few_any B m d q w hB hm1 hd hdm hgq u hu)
  have hs9 := hs
  unfold maxLen at hs9
  by_cases hgo : v = true ∧ u = true ∧ s.size ≤ 1000
  · obtain ⟨rfl, rfl, h1000⟩ := hgo
    have d1 : decide ((1000 : Int) < (s.size : Int)) = false := decide_eq_false (by omega)
    have hf1 := (hv.1 rfl).fit
    have hf2 := (hu.1 rfl).fit
    have hn70 : n ≤ 70 := by rw [← hn]; exact (hv.1 rfl).len
    have HC1 := Lib.hid (fun (W : World) (h : Below w.heap.size w W) => check_any A n c l W (hA.below h) hn hc hm hf1)
    have HC2 := Lib.hid (fun (W : World) (h : Below w.heap.size w W) => check_any B m d q W (hB.below h) hm1 hd hdm hf2)
    have HB0 := Lib.hid (Below.refl w.heap.size w)
    by_cases hk1 : ckZ (zos l) = 0
    · by_cases hk2 : ckZ (zos q) = 0
      · rw [hk1] at HC1
        rw [hk2] at HC2
        obtain ⟨V, hV⟩ := ba_of (fnd (zos l) s.data.toList)
        obtain ⟨b, hb⟩ : ∃ b, (!V.data.toList.isEmpty) = b := ⟨_, rfl⟩
        obtain ⟨ev, hev⟩ : ∃ ev, eqZ (zos l) (zos q) = ev := ⟨_, rfl⟩
        have HM1 := Lib.hid (fun (W : World) (h : Below w.heap.size w W) => can_min A n c l W (hA.below h) hn hc hm hf1 hk1)
        have HM2 := Lib.hid (fun (W : World) (h : Below w.heap.size w W) => can_min B m d q W (hB.below h) hm1 hd hdm hf2 hk2)
        have HX := Lib.hid (fun (W : World) (h : Below w.heap.size w W) => find_is A n c l s V b W (hA.below h) hn hc hm hf1 hs hV hb)
        have HEQ := Lib.hid (fun (A1 : Option Addr) (N1 c1 : Nat) (M : List Zm) (W : World) (h : Below w.heap.size w W) (hN : Cn l W A1 N1 c1 M) => hN.equal (hA.below h) hn hc hm hf1 hk1)
        have HFA := Lib.hid (fun (A1 : Option Addr) (N1 c1 : Nat) (M : List Zm) (W : World) (hN : Cn l W A1 N1 c1 M) => hN.find hk1 s V b hs hV hb)
        have HAG := Lib.hid (fun (A1 : Option Addr) (N1 c1 : Nat) (M : List Zm) (W : World) (hN : Cn l W A1 N1 c1 M) => hN.again hk1)
        have HSA := Lib.hid (fun (A1 : Option Addr) (N1 c1 : Nat) (M : List Zm) (B1 : Option Addr) (N2 c2 : Nat) (K : List Zm) (W : World) (hN : Cn l W A1 N1 c1 M) (hK : Cn q W B1 N2 c2 K) => hN.same hK hk1 hk2 ev hev)
        have HE := Lib.hid (fun (W : World) (h : Below w.heap.size w W) => (equal_any A B n c m d l q W (hA.below h) hn hc hm hf1 (hB.below h) hm1 hd hdm hf2))
        rw [hev] at HE
        have HP := Lib.hid (fun (W : World) (h : Below w.heap.size w W) (i k : Nat) (hi : i < l.length) (hk : k < (l.getD i zm0).ps.length) => find_is A n c l ((l.getD i zm0).ps.getD k ⟨#[]⟩) (l.getD i zm0).nm true W (hA.below h) hn hc hm hf1 ((hf1.at hi rfl).2.2 _ (getD_memS hk)) (fnd_own (ck_vld.1 hk1) (z := (l.getD i zm0).zo) (by rw [← zos_get hi]; exact List.getElem_mem _) (List.mem_map.2 ⟨_, getD_memS hk, rfl⟩)) (by
          have h1 := nmB_ne (((ck_vld.1 hk1).ok (l.getD i zm0).zo (by rw [← zos_get hi]; exact List.getElem_mem _)).1)
          cases h2 : (l.getD i zm0).nm.data.toList with
          | nil => exact absurd h2 h1
          | cons x t => rfl))
        have HA := Lib.hid hA; have HN := Lib.hid hn; have HFI := Lib.hid hf1
        clear hA hn hm hg hv hB hm1 hd hdm hgq hu hs hV hb hf1 hf2 hev h1000 hk1 hk2
        go_enter Try.func7, Try.ntmps7
        go_wp2_with (first
          | (go_at_call 9; (first | with_reducible refine HF.out.mono ?_ | with_reducible refine HG.out.mono ?_); rintro e w1 ⟨rfl, rfl⟩)
          | (go_at_call 11; (with_reducible refine (HC1.out _ HB0.out).mono ?_); rintro e w1 ⟨rfl, hb1⟩; have HB1 := Lib.hid hb1; clear hb1 HB0)
          | (go_at_call 11; (with_reducible refine (HC2.out _ HB1.out).mono ?_); rintro e w2 ⟨rfl, hb2⟩; have HB2 := Lib.hid (HB1.out.trans (hb2.mono HB1.out.size)); clear hb2)
          | (go_at_call 21; (with_reducible refine (HM1.out _ HB2.out).mono ?_); rintro e w3 ⟨A1, N1, c1, M1, rfl, x1, x2⟩; have HX1 := Lib.hid x1; have HB3 := Lib.hid (HB2.out.trans (x2.mono HB2.out.size)); clear x1 x2 HM1)
          | (go_at_call 21; (with_reducible refine (HM2.out _ HB3.out).mono ?_); rintro e w4 ⟨A2, N2, c2, M2, rfl, x1, x2⟩; have HX2 := Lib.hid x1; have HY1 := Lib.hid (HX1.out.below x2); have HB4 := Lib.hid (HB3.out.trans (x2.mono HB3.out.size)); clear x1 x2 HM2)
          | (go_at_call 16; (with_reducible refine (HX.out _ HB4.out).mono ?_); rintro e w5 ⟨rfl, x2⟩; have HX3 := Lib.hid (HX2.out.below x2); have HY3 := Lib.hid (HY1.out.below x2); have HB5 := Lib.hid (HB4.out.trans (x2.mono HB4.out.size)); clear x2 HX)
          | (go_at_call 16; (with_reducible refine (HFA.out _ _ _ _ _ HY3.out).mono ?_); rintro e w6 ⟨rfl, x2⟩; have HX4 := Lib.hid (HX3.out.below x2); have HY4 := Lib.hid (HY3.out.below x2); have HB6 := Lib.hid (HB5.out.trans (x2.mono HB5.out.size)); clear x2 HFA)
          | (go_at_call 11; (with_reducible refine (HY4.out.check).mono ?_); rintro e w7 ⟨rfl, x2⟩; have HX5 := Lib.hid (HX4.out.below x2); have HY5 := Lib.hid (HY4.out.below x2); have HB7 := Lib.hid (HB6.out.trans (x2.mono HB6.out.size)); clear x2)
          | (go_at_call 18; (with_reducible refine (HEQ.out _ _ _ _ _ HB7.out HY5.out).mono ?_); rintro e w8 ⟨rfl, x2⟩; have HX6 := Lib.hid (HX5.out.below x2); have HY6 := Lib.hid (HY5.out.below x2); have HB8 := Lib.hid (HB7.out.trans (x2.mono HB7.out.size)); clear x2)
          | (go_at_call 21; (with_reducible refine (HAG.out _ _ _ _ _ HY6.out).mono ?_); rintro e w9 ⟨A3, c3, rfl, x1, x2⟩; have HZ := Lib.hid x1; have HX7 := Lib.hid (HX6.out.below x2); have HY7 := Lib.hid (HY6.out.below x2); have HB9 := Lib.hid (HB8.out.trans (x2.mono HB8.out.size)); have HSS := Lib.hid (same_ok A3 A1 N1 c3 N1 c1 M1 M1 w9 HZ.out HY7.out.len HY7.out.n64 HY7.out.fit HY7.out.zs HY7.out.len HY7.out.n64 HY7.out.fit rfl); clear x1 x2)
          | (go_at_call 20; (with_reducible refine HSS.out.mono ?_); rintro e w10 ⟨rfl, x2⟩; have HX8 := Lib.hid (HX7.out.below x2); have HY8 := Lib.hid (HY7.out.below x2); have HBA := Lib.hid (HB9.out.trans (x2.mono HB9.out.size)); clear x2))
        clear HX2 HX3 HX4 HX5 HX6 HX7 HY1 HY3 HY4 HY5 HY6 HY7 HB1 HB2 HB3 HB4 HB5 HB6 HB7 HB8 HB9 HEQ HAG HSS HZ HX1
        go_loopw [13] (fun iv wr => ∃ i : Nat, iv = .int .i64 i ∧ i ≤ n ∧ Hid (Below w10.heap.size w10 wr)) (fun iv _ => n - (intOf iv).toNat)
        case atStart => exact ⟨0, rfl, by omega, Lib.hid (Below.refl _ _)⟩
        case round =>
          obtain ⟨i, rfl, hi, HB⟩ := hrel
          by_cases hlt : i < n
          · have hil : i < l.length := by rw [HN.out]; exact hlt
            have hlt' : (i : Int) < (n : Int) := by omega
            have hi0 : (0 : Int) ≤ (i : Int) := by omega
            obtain ⟨bk, off, P, c2', rfl, hbl, e0, e1, g2, g3, g4, g5⟩ := HA.out i hil
            have HPI := Lib.hid (fun W h k hk => HP.out W h i k hil hk)
            have HFZ := Lib.hid (HFI.out.at hil rfl)
            obtain ⟨z, hz⟩ : ∃ z, l.getD i zm0 = z := ⟨_, rfl⟩
            rw [hz] at e0 e1 g4 HPI HFZ
            obtain ⟨x, ss⟩ := z
            simp only at e0 e1 g4 HPI HFZ
            obtain ⟨L, hL⟩ : ∃ L, ss.length = L := ⟨_, rfl⟩
            rw [hL] at e1
            have HL := Lib.hid hL
            have hLm : L ≤ 1000000 := by rw [← hL]; exact HFZ.out.1
            have HCE := Lib.hid (And.intro hbl (And.intro e0 e1)); have HPR := Lib.hid g4
            clear g2 g3 g4 g5 hz hL hbl hil e0 e1
            go_wp2_with fail
            go_loopw [14] (fun kv w9 => ∃ k : Nat, kv = .int .i64 k ∧ k ≤ L ∧ Hid (Below w10.heap.size w10 w9)) (fun kv _ => L - (intOf kv).toNat)
            case atStart => exact ⟨0, rfl, by omega, HB⟩
            case round =>
              clear HB
              obtain ⟨k, rfl, hk, HB⟩ := hrel
              have HBW := Lib.hid (HBA.out.trans (HB.out.mono HBA.out.size))
              have e0 := (HBW.out.cell (p := ⟨bk, off + i * 2, none⟩) HCE.out.1).trans HCE.out.2.1
              have e1 := (HBW.out.cell (p := ⟨bk, off + i * 2 + 1, none⟩) HCE.out.1).trans HCE.out.2.2
              have hk0 : (0 : Int) ≤ (k : Int) := by omega
              by_cases hkl : k < L
              · have hkl' : (k : Int) < (L : Int) := by omega
                have hks : k < ss.length := by rw [HL.out]; exact hkl
                obtain ⟨bp, op, rfl, hbp, gp⟩ := HPR.out k hks
                have e2 := (HBW.out.cell (p := ⟨bp, op + k, none⟩) hbp).trans gp
                have HFP := Lib.hid (HPI.out _ HBW.out k hks)
                obtain ⟨p, hp⟩ : ∃ p, ss.getD k ⟨#[]⟩ = p := ⟨_, rfl⟩
                rw [hp] at e2 HFP
                clear gp hbp hp hks
                go_wp2_with (go_at_call 16; (with_reducible refine HFP.out.mono ?_); rintro e w12 ⟨rfl, x2⟩; have HB2 := Lib.hid (HB.out.trans (x2.mono HB.out.size)); have HBV := Lib.hid (HBA.out.trans (HB2.out.mono HBA.out.size)); clear x2 e0 e1 e2; have e0 := (HBV.out.cell (p := ⟨bk, off + i * 2, none⟩) HCE.out.1).trans HCE.out.2.1)
                go_roundw
                case rel => exact ⟨k + 1, by go_num, by omega, HB2⟩
                case measure => simp [intOf]; omega
              · obtain rfl : k = L := by omega
                go_wp2_with fail
                go_roundw
                case rel => exact ⟨i + 1, by go_num, by omega, HB⟩
                case measure => simp [intOf]; omega
          · obtain rfl : i = n := by omega
            have HBW := Lib.hid (HBA.out.trans (HB.out.mono HBA.out.size))
            go_wp2_with (first
              | (go_at_call 18; (with_reducible refine (HE.out _ HBW.out).mono ?_); rintro e w13 ⟨rfl, x2⟩; have HB2 := Lib.hid (HBW.out.trans (x2.mono HBW.out.size)); have HSS := Lib.hid (HSA.out _ _ _ _ _ _ _ _ w13 (HY8.out.below (HB.out.trans (x2.mono HB.out.size))) (HX8.out.below (HB.out.trans (x2.mono HB.out.size)))); clear x2)
              | (go_at_call 20; (with_reducible refine HSS.out.mono ?_); rintro e w14 ⟨rfl, x2⟩; have HB3 := Lib.hid (HB2.out.trans (x2.mono HB2.out.size)); clear x2)
              | (go_at_call 10; (with_reducible refine (awake_any _).mono ?_); rintro e w15 ⟨rfl, hb6⟩))
            go_ret
            exact ⟨rfl, HB3.out.trans (hb6.mono HB3.out.size)⟩
      · rw [hk1] at HC1
        obtain ⟨ev, hev⟩ : ∃ ev, ckZ (zos q) = ev := ⟨_, rfl⟩
        rw [hev] at HC2 hk2
        have d2 : (ev != 0) = true := by simpa using hk2
        have d3 : (ev == 0) = false := by simpa using hk2
        clear hA hn hc hm hg hv hB hm1 hd hdm hgq hu hs hf1 hf2 hev h1000 hk1 hk2
        go_enter Try.func7, Try.ntmps7
        go_wp2_with (first
          | (go_at_call 9; (first | with_reducible refine HF.out.mono ?_ | with_reducible refine HG.out.mono ?_); rintro e w1 ⟨rfl, rfl⟩)
          | (go_at_call 11; (with_reducible refine (HC1.out _ HB0.out).mono ?_); rintro e w1 ⟨rfl, hb1⟩; have HB1 := Lib.hid hb1; clear hb1 HB0)
          | (go_at_call 11; (with_reducible refine (HC2.out _ HB1.out).mono ?_); rintro e w2 ⟨rfl, hb2⟩; have HB2 := Lib.hid (HB1.out.trans (hb2.mono HB1.out.size)); clear hb2)
          | (go_at_call 10; (with_reducible refine (awake_any _).mono ?_); rintro e w6 ⟨rfl, hb6⟩))
        go_ret
        exact ⟨rfl, HB2.out.trans (hb6.mono HB2.out.size)⟩
    · obtain ⟨ev, hev⟩ : ∃ ev, ckZ (zos l) = ev := ⟨_, rfl⟩
      rw [hev] at HC1 hk1
      have d2 : (ev != 0) = true := by simpa using hk1
      have d3 : (ev == 0) = false := by simpa using hk1
      clear hA hn hc hm hg hv hB hm1 hd hdm hgq hu hs hf1 hf2 hev h1000 hk1
      go_enter Try.func7, Try.ntmps7
      go_wp2_with (first
        | (go_at_call 9; (first | with_reducible refine HF.out.mono ?_ | with_reducible refine HG.out.mono ?_); rintro e w1 ⟨rfl, rfl⟩)
        | (go_at_call 11; (with_reducible refine (HC1.out _ HB0.out).mono ?_); rintro e w1 ⟨rfl, hb1⟩; have HB1 := Lib.hid hb1; clear hb1 HB0)
        | (go_at_call 10; (with_reducible refine (awake_any _).mono ?_); rintro e w6 ⟨rfl, hb6⟩))
      go_ret
      exact ⟨rfl, HB1.out.trans (hb6.mono HB1.out.size)⟩
  · have hcs : v = false ∨ (v = true ∧ u = false) ∨ (v = true ∧ u = true ∧ decide ((1000 : Int) < (s.size : Int)) = true) := by
      cases v with
      | false => exact .inl rfl
      | true =>
        cases u with
        | false => exact .inr (.inl ⟨rfl, rfl⟩)
        | true => exact .inr (.inr ⟨rfl, rfl, decide_eq_true (by
            rcases Nat.lt_or_ge 1000 s.size with h | h
            · omega
            · exact absurd ⟨rfl, rfl, h⟩ hgo)⟩)
    clear hA hn hc hm hg hv hB hm1 hd hdm hgq hu hs hgo
    rcases hcs with rfl | ⟨rfl, rfl⟩ | ⟨rfl, rfl, d1⟩
    all_goals
      go_enter Try.func7, Try.ntmps7
      go_wp2_with (first
        | (go_at_call 9; (first | with_reducible refine HF.out.mono ?_ | with_reducible refine HG.out.mono ?_); rintro e w1 ⟨rfl, rfl⟩)
        | (go_at_call 10; (with_reducible refine (awake_any _).mono ?_); rintro e w6 ⟨rfl, hb6⟩))
      go_ret
      exact ⟨rfl, hb6⟩
end Go.Proofs.Ytflonakoagjmhaa
