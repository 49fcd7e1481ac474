/- Walk: the amount that a text denotes, in the reference. -/
import Derived.Test.YtieehofijndelaaDoorAmtRefM
namespace Go.Proofs.YtieehofijndelaaDoor
open Go.RowKit

/-- The digits among the first k bytes, the byte p left out. -/
def prefD (t : List UInt8) (p k : Nat) : List UInt8 := if k ≤ p then t.take k else t.take p ++ (t.take k).drop (p + 1)
theorem prefD_skip (t : List UInt8) (p : Nat) : prefD t p (p + 1) = prefD t p p := by
  unfold prefD
  rw [if_neg (by omega), if_pos (Nat.le_refl _), List.drop_of_length_le (by rw [List.length_take]; omega), List.append_nil]
theorem prefD_step {t : List UInt8} {p k : Nat} (h : k < t.length) (hne : k ≠ p) : prefD t p (k + 1) = prefD t p k ++ [t[k]] := by
  unfold prefD
  rcases Nat.lt_or_ge k p with hlt | hge
  · rw [if_pos (by omega), if_pos (by omega), List.take_succ_eq_append_getElem h]
  · rw [if_neg (by omega), if_neg (by omega), List.take_succ_eq_append_getElem h, List.drop_append_of_le_length (by rw [List.length_take]; omega), List.append_assoc]
theorem prefD_all {t : List UInt8} {p : Nat} (h : t.length = p + 5) : prefD t p t.length = refDig t := by
  unfold prefD refDig
  rw [if_neg (by omega), h, Nat.add_sub_cancel, show p + 5 - 4 = p + 1 from by omega, List.take_of_length_le (i := p + 5) (by omega)]
theorem refDig_mem {t : List UInt8} {p k : Nat} (h : t.length = p + 5) (hk : k < t.length) (hne : k ≠ p) : t[k] ∈ refDig t := by
  unfold refDig
  rw [h, Nat.add_sub_cancel, show p + 5 - 4 = p + 1 from by omega]
  rcases Nat.lt_or_ge k p with hlt | hge
  · apply List.mem_append_left
    rw [List.mem_take_iff_getElem]
    exact ⟨k, by omega, rfl⟩
  · apply List.mem_append_right
    rw [List.mem_drop_iff_getElem]
    exact ⟨k - (p + 1), by omega, by congr 1; omega⟩

set_option maxHeartbeats 16000000 in
theorem refParse_neg (s u : ByteArray) (w : World) (hs : s.size ≤ 65536) (hus : u.size ≤ 65536) (hs0 : 0 < s.size) (hb : ((s[0].toNat : Int) == 45) = true) (hx : s.extract 1 s.size = u) (HN : Hid (Lib.hasPrefix s.data.toList [45] = true))
    (HB : Hid (u.data.toList = posL s.data.toList)) (HU : Hid ((posL s.data.toList).length = u.size)) :
    Calls Tryd.prog 34 #[.string s] w fun e w' => e = .returned (.tuple #[.int .i64 (psV s.data.toList), .int .i64 (psE s.data.toList)]) ∧ w = w' := by
  have hs1 : 1 ≤ (s.size : Int) := by omega
  by_cases hm : (u.size : Int) < 6
  · have HF := Lib.hid (ps_bad (l := s.data.toList) (by
      cases h : synB s.data.toList with
      | false => rfl
      | true => have := (syn_pre h).1.1; rw [HU.out] at this; omega))
    go_enter Tryd.func34, Tryd.ntmps34
    go_wp2
    go_ret2
    exact ⟨ret_ints HF.out.1.symm HF.out.2.symm, rfl⟩
  · obtain ⟨p, hp⟩ : ∃ p : Nat, u.size = p + 5 := ⟨u.size - 5, by omega⟩
    have hpl : p < u.size := by omega
    have h0s : 0 < u.size := by omega
    have hp1 : 1 ≤ p := by omega
    have hidx : (u.size : Int) - 5 = (p : Int) := by omega
    have HPE := Lib.hid hp; clear hp
    have hpl' : (p : Int) < u.size := by omega
    have hat : (posL s.data.toList)[(posL s.data.toList).length - 5]? = some (u[p]'hpl) := by
      rw [HU.out, show u.size - 5 = p from by have := HPE.out; omega, ← HB.out, List.getElem?_eq_getElem (by rw [len_data]; exact hpl)]
      rfl
    have hhead : (posL s.data.toList).head? = some (u[0]'h0s) := by
      rw [← HB.out, List.head?_eq_getElem?, List.getElem?_eq_getElem (by rw [len_data]; omega)]
      rfl
    have HAT := Lib.hid hat; have HHD := Lib.hid hhead
    clear hat hhead
    by_cases h46 : (u[p]'hpl) = 46
    · have b46 : (((u[p]'hpl).toNat : Int) != 46) = false := by rw [h46]; rfl
      by_cases h48 : (u[0]'h0s) = 48 ∧ (6 : Int) < u.size
      · have b48 : (((u[0]'h0s).toNat : Int) == 48) = true := by rw [h48.1]; rfl
        have hgt := h48.2
        have HF := Lib.hid (ps_bad (l := s.data.toList) (by
          cases h : synB s.data.toList with
          | false => rfl
          | true =>
            have := (syn_pre h).1.2.2
            rw [HU.out, HHD.out, h48.1] at this
            exact absurd ⟨rfl, by omega⟩ this))
        clear h46 h48
        go_enter Tryd.func34, Tryd.ntmps34
        go_wp2
        go_ret2
        exact ⟨ret_ints HF.out.1.symm HF.out.2.symm, rfl⟩
      · have hpre : refPre (posL s.data.toList) := by
          refine ⟨by rw [HU.out]; omega, by rw [HAT.out, h46], ?_⟩
          rintro ⟨h1, h2⟩
          rw [HHD.out] at h1
          rw [HU.out] at h2
          exact h48 ⟨by simpa using h1, by omega⟩
        have HPRE := Lib.hid hpre; clear hpre
        have hlead : Hid (¬ ((u[0]'h0s) = 48 ∧ (6 : Int) < u.size)) := Lib.hid h48
        have hl2 : (((u[0]'h0s).toNat : Int) == 48) = false ∨ ((((u[0]'h0s).toNat : Int) == 48) = true ∧ decide ((6 : Int) < u.size) = false) := by
          by_cases h0 : (u[0]'h0s) = 48
          · right
            refine ⟨by rw [h0]; rfl, ?_⟩
            simp only [decide_eq_false_iff_not]
            exact fun h => h48 ⟨h0, h⟩
          · left
            rw [beq_eq_false_iff_ne]
            exact fun h => h0 (UInt8.toNat_inj.1 (Int.ofNat.inj h))
        clear h46 h48
        rcases hl2 with b48 | ⟨b48, b6⟩
        all_goals
          go_enter Tryd.func34, Tryd.ntmps34
          go_wp2
          go_loop [6, 7, 8] (fun n o i => ∃ k : Nat, k ≤ u.size ∧ i = .int .i64 k ∧ (prefD (posL s.data.toList) p k).all dgt = true ∧
              ((o = .bool false ∧ valL (prefD (posL s.data.toList) p k) ≤ 1125899906842624 ∧ n = .int .i64 (valL (prefD (posL s.data.toList) p k))) ∨ (o = .bool true ∧ 1125899906842624 < valL (prefD (posL s.data.toList) p k) ∧ n = .int .i64 1125899906842624))) (fun _ _ i => u.size - (intOf i).toNat)
          case atStart => exact ⟨0, by omega, rfl, by simp [prefD], .inl ⟨rfl, by simp [prefD, valL], by simp [prefD, valL]⟩⟩
          case round =>
            obtain ⟨k, hk, rfl, hall, hcase⟩ := hrel
            have HALL := Lib.hid hall; clear hall
            by_cases hlt : k < u.size
            · by_cases hkp : k = p
              · have hbk : ((k : Int) == (p : Int)) = true := by simp; omega
                have HS : Hid (prefD (posL s.data.toList) p (k + 1) = prefD (posL s.data.toList) p k) := Lib.hid (by rw [hkp]; exact prefD_skip _ _)
                clear hkp
                rcases hcase with ⟨rfl, hv, rfl⟩ | ⟨rfl, hv, rfl⟩
                · have HV := Lib.hid hv
                  go_wp2
                  go_round
                  case rel => exact ⟨k + 1, by omega, by go_num, by rw [HS.out]; exact HALL.out, .inl ⟨rfl, by rw [HS.out]; exact HV.out, by rw [HS.out]⟩⟩
                  case measure => simp [intOf]; omega
                · have HV := Lib.hid hv
                  go_wp2
                  go_round
                  case rel => exact ⟨k + 1, by omega, by go_num, by rw [HS.out]; exact HALL.out, .inr ⟨rfl, by rw [HS.out]; exact HV.out, rfl⟩⟩
                  case measure => simp [intOf]; omega
              · have hbk : ((k : Int) == (p : Int)) = false := by simp; omega
                have hkl : k < (posL s.data.toList).length := by rw [HU.out]; exact hlt
                have hbyte : (posL s.data.toList)[k] = (u[k]'hlt) := by
                  have h1 : (posL s.data.toList)[k]? = some (u[k]'hlt) := by
                    rw [← HB.out, List.getElem?_eq_getElem (by rw [len_data]; exact hlt)]; rfl
                  rw [List.getElem?_eq_getElem hkl] at h1
                  simpa using h1
                have hs1 := prefD_step (t := posL s.data.toList) (p := p) hkl hkp
                rw [hbyte] at hs1
                have HS := Lib.hid hs1
                have hmem := refDig_mem (t := posL s.data.toList) (p := p) (by rw [HU.out]; exact HPE.out) hkl hkp
                rw [hbyte] at hmem
                have HMEM := Lib.hid hmem
                clear hs1 hbyte hkp hmem hkl
                have hbad : dgt (u[k]'hlt) = false → synB s.data.toList = false := by
                  intro hd
                  cases h : synB s.data.toList with
                  | false => rfl
                  | true =>
                    have h1 := (syn_digits h).1
                    rw [(syn_pre h).2] at h1
                    have := List.all_eq_true.1 h1 _ HMEM.out
                    rw [hd] at this; cases this
                have HBAD := Lib.hid hbad; clear hbad
                by_cases h1 : ((u[k]'hlt).toNat : Int) < 48
                · have HF := Lib.hid (ps_bad (HBAD.out (dgt_lo h1)))
                  rcases hcase with ⟨rfl, hv, rfl⟩ | ⟨rfl, hv, rfl⟩
                  all_goals
                    go_wp2
                    go_ret2
                    exact ⟨ret_ints HF.out.1.symm HF.out.2.symm, rfl⟩
                · by_cases h2 : (57 : Int) < ((u[k]'hlt).toNat : Int)
                  · have HF := Lib.hid (ps_bad (HBAD.out (dgt_hi h2)))
                    rcases hcase with ⟨rfl, hv, rfl⟩ | ⟨rfl, hv, rfl⟩
                    all_goals
                      go_wp2
                      go_ret2
                      exact ⟨ret_ints HF.out.1.symm HF.out.2.symm, rfl⟩
                  · have hdg := dgt_mk (c := (u[k]'hlt)) (by omega) (by omega)
                    have HDG := Lib.hid hdg; clear hdg
                    have hnn := valL_nonneg _ HALL.out
                    have HVS : Hid (valL (prefD (posL s.data.toList) p (k + 1)) = 10 * valL (prefD (posL s.data.toList) p k) + (((u[k]'hlt).toNat : Int) - 48)) := Lib.hid (by rw [HS.out, valL_snoc]; rfl)
                    have HAS : Hid ((prefD (posL s.data.toList) p (k + 1)).all dgt = true) := Lib.hid (by rw [HS.out, all_snoc, HALL.out, HDG.out]; rfl)
                    generalize valL (prefD (posL s.data.toList) p k) = v at *
                    rcases hcase with ⟨rfl, hv, rfl⟩ | ⟨rfl, hv, rfl⟩
                    · by_cases hbig : 1125899906842624 < 10 * v + (((u[k]'hlt).toNat : Int) - 48)
                      · go_wp2
                        go_round
                        case rel => exact ⟨k + 1, by omega, by go_num, HAS.out, .inr ⟨rfl, by rw [HVS.out]; exact hbig, rfl⟩⟩
                        case measure => simp [intOf]; omega
                      · go_wp2
                        go_round
                        case rel => exact ⟨k + 1, by omega, by go_num, HAS.out, .inl ⟨rfl, by rw [HVS.out]; omega, by rw [HVS.out]⟩⟩
                        case measure => simp [intOf]; omega
                    · go_wp2
                      go_round
                      case rel => exact ⟨k + 1, by omega, by go_num, HAS.out, .inr ⟨rfl, by rw [HVS.out]; omega, rfl⟩⟩
                      case measure => simp [intOf]; omega
            · obtain rfl : k = u.size := by omega
              have hfull : prefD (posL s.data.toList) p u.size = refDig (posL s.data.toList) := by
                rw [← HU.out]; exact prefD_all (by rw [HU.out]; exact HPE.out)
              have hall := HALL.out
              rw [hfull] at hall hcase
              have hps := pre_syn HPRE.out hall
              have hmz := minus_zero HPRE.out hall
              have hnn := valL_nonneg _ hall
              have hneg : Lib.hasPrefix s.data.toList [45] = true := HN.out
              rw [hneg] at hmz
              have hsyn : synB s.data.toList = !(true && decide (valL (refDig (posL s.data.toList)) = 0)) := by
                unfold synB
                rw [hps.1, hps.2.1, hmz]; rfl
              have hdl := hps.2.2
              clear hps hmz hfull HALL hall
              rcases hcase with ⟨rfl, hv, rfl⟩ | ⟨rfl, hv, rfl⟩
              · by_cases h0 : valL (refDig (posL s.data.toList)) = 0
                · have hb0 : (valL (refDig (posL s.data.toList)) == 0) = true := by simpa using h0
                  have HF := Lib.hid (ps_bad (l := s.data.toList) (by rw [hsyn, h0]; rfl))
                  have H0 := Lib.hid h0
                  clear hsyn hdl hneg h0
                  generalize valL (refDig (posL s.data.toList)) = v at *
                  go_wp2
                  go_ret2
                  exact ⟨ret_ints HF.out.1.symm HF.out.2.symm, rfl⟩
                · have hb0 : (valL (refDig (posL s.data.toList)) == 0) = false := by simpa using h0
                  have hne : posL s.data.toList ≠ s.data.toList := by
                    rcases posL_cases s.data.toList with ⟨_, h⟩ | ⟨h, _⟩
                    · intro e; have := congrArg List.length h; rw [e] at this; simp at this
                    · rw [hneg] at h; cases h
                  have HF := Lib.hid (ps_neg (l := s.data.toList) (by rw [hsyn]; simp [h0]) (by rw [hdl]; exact hv) hne)
                  rw [hdl] at HF
                  clear hsyn hdl hneg h0 hne
                  generalize valL (refDig (posL s.data.toList)) = v at *
                  go_wp2
                  go_ret2
                  exact ⟨ret_ints HF.out.1.symm HF.out.2.symm, rfl⟩
              · have hz0 : decide (valL (refDig (posL s.data.toList)) = 0) = false := decide_eq_false (by omega)
                have HF := Lib.hid (ps_big (l := s.data.toList) (by rw [hsyn, hz0]; rfl) (by rw [hdl]; exact hv))
                clear hz0
                clear hsyn hdl hneg
                generalize valL (refDig (posL s.data.toList)) = v at *
                go_wp2
                go_ret2
                exact ⟨ret_ints HF.out.1.symm HF.out.2.symm, rfl⟩
    · have b46 : (((u[p]'hpl).toNat : Int) != 46) = true := by
        rw [bne_iff_ne]
        exact fun h => h46 (UInt8.toNat_inj.1 (Int.ofNat.inj h))
      have HF := Lib.hid (ps_bad (l := s.data.toList) (by
        cases h : synB s.data.toList with
        | false => rfl
        | true =>
          have := (syn_pre h).1.2.1
          rw [HAT.out] at this
          exact absurd (by simpa using this) h46))
      clear h46
      go_enter Tryd.func34, Tryd.ntmps34
      go_wp2
      go_ret2
      exact ⟨ret_ints HF.out.1.symm HF.out.2.symm, rfl⟩

set_option maxHeartbeats 16000000 in
theorem refParse_pos (s : ByteArray) (w : World) (hs : s.size ≤ 65536) (hs0 : 0 < s.size) (hb : ((s[0].toNat : Int) == 45) = false) (HN : Hid (Lib.hasPrefix s.data.toList [45] = false))
    (HB : Hid (s.data.toList = posL s.data.toList)) (HU : Hid ((posL s.data.toList).length = s.size)) :
    Calls Tryd.prog 34 #[.string s] w fun e w' => e = .returned (.tuple #[.int .i64 (psV s.data.toList), .int .i64 (psE s.data.toList)]) ∧ w = w' := by
  by_cases hm : (s.size : Int) < 6
  · have HF := Lib.hid (ps_bad (l := s.data.toList) (by
      cases h : synB s.data.toList with
      | false => rfl
      | true => have := (syn_pre h).1.1; rw [HU.out] at this; omega))
    go_enter Tryd.func34, Tryd.ntmps34
    go_wp2
    go_ret2
    exact ⟨ret_ints HF.out.1.symm HF.out.2.symm, rfl⟩
  · obtain ⟨p, hp⟩ : ∃ p : Nat, s.size = p + 5 := ⟨s.size - 5, by omega⟩
    have hpl : p < s.size := by omega
    have h0s : 0 < s.size := by omega
    have hp1 : 1 ≤ p := by omega
    have hidx : (s.size : Int) - 5 = (p : Int) := by omega
    have HPE := Lib.hid hp; clear hp
    have hpl' : (p : Int) < s.size := by omega
    have hat : (posL s.data.toList)[(posL s.data.toList).length - 5]? = some (s[p]'hpl) := by
      rw [HU.out, show s.size - 5 = p from by have := HPE.out; omega, ← HB.out, List.getElem?_eq_getElem (by rw [len_data]; exact hpl)]
      rfl
    have hhead : (posL s.data.toList).head? = some (s[0]'h0s) := by
      rw [← HB.out, List.head?_eq_getElem?, List.getElem?_eq_getElem (by rw [len_data]; omega)]
      rfl
    have HAT := Lib.hid hat; have HHD := Lib.hid hhead
    clear hat hhead
    by_cases h46 : (s[p]'hpl) = 46
    · have b46 : (((s[p]'hpl).toNat : Int) != 46) = false := by rw [h46]; rfl
      by_cases h48 : (s[0]'h0s) = 48 ∧ (6 : Int) < s.size
      · have b48 : (((s[0]'h0s).toNat : Int) == 48) = true := by rw [h48.1]; rfl
        have hgt := h48.2
        have HF := Lib.hid (ps_bad (l := s.data.toList) (by
          cases h : synB s.data.toList with
          | false => rfl
          | true =>
            have := (syn_pre h).1.2.2
            rw [HU.out, HHD.out, h48.1] at this
            exact absurd ⟨rfl, by omega⟩ this))
        clear h46 h48
        go_enter Tryd.func34, Tryd.ntmps34
        go_wp2
        go_ret2
        exact ⟨ret_ints HF.out.1.symm HF.out.2.symm, rfl⟩
      · have hpre : refPre (posL s.data.toList) := by
          refine ⟨by rw [HU.out]; omega, by rw [HAT.out, h46], ?_⟩
          rintro ⟨h1, h2⟩
          rw [HHD.out] at h1
          rw [HU.out] at h2
          exact h48 ⟨by simpa using h1, by omega⟩
        have HPRE := Lib.hid hpre; clear hpre
        have hlead : Hid (¬ ((s[0]'h0s) = 48 ∧ (6 : Int) < s.size)) := Lib.hid h48
        have hl2 : (((s[0]'h0s).toNat : Int) == 48) = false ∨ ((((s[0]'h0s).toNat : Int) == 48) = true ∧ decide ((6 : Int) < s.size) = false) := by
          by_cases h0 : (s[0]'h0s) = 48
          · right
            refine ⟨by rw [h0]; rfl, ?_⟩
            simp only [decide_eq_false_iff_not]
            exact fun h => h48 ⟨h0, h⟩
          · left
            rw [beq_eq_false_iff_ne]
            exact fun h => h0 (UInt8.toNat_inj.1 (Int.ofNat.inj h))
        clear h46 h48
        rcases hl2 with b48 | ⟨b48, b6⟩
        all_goals
          go_enter Tryd.func34, Tryd.ntmps34
          go_wp2
          go_loop [6, 7, 8] (fun n o i => ∃ k : Nat, k ≤ s.size ∧ i = .int .i64 k ∧ (prefD (posL s.data.toList) p k).all dgt = true ∧
              ((o = .bool false ∧ valL (prefD (posL s.data.toList) p k) ≤ 1125899906842624 ∧ n = .int .i64 (valL (prefD (posL s.data.toList) p k))) ∨ (o = .bool true ∧ 1125899906842624 < valL (prefD (posL s.data.toList) p k) ∧ n = .int .i64 1125899906842624))) (fun _ _ i => s.size - (intOf i).toNat)
          case atStart => exact ⟨0, by omega, rfl, by simp [prefD], .inl ⟨rfl, by simp [prefD, valL], by simp [prefD, valL]⟩⟩
          case round =>
            obtain ⟨k, hk, rfl, hall, hcase⟩ := hrel
            have HALL := Lib.hid hall; clear hall
            by_cases hlt : k < s.size
            · by_cases hkp : k = p
              · have hbk : ((k : Int) == (p : Int)) = true := by simp; omega
                have HS : Hid (prefD (posL s.data.toList) p (k + 1) = prefD (posL s.data.toList) p k) := Lib.hid (by rw [hkp]; exact prefD_skip _ _)
                clear hkp
                rcases hcase with ⟨rfl, hv, rfl⟩ | ⟨rfl, hv, rfl⟩
                · have HV := Lib.hid hv
                  go_wp2
                  go_round
                  case rel => exact ⟨k + 1, by omega, by go_num, by rw [HS.out]; exact HALL.out, .inl ⟨rfl, by rw [HS.out]; exact HV.out, by rw [HS.out]⟩⟩
                  case measure => simp [intOf]; omega
                · have HV := Lib.hid hv
                  go_wp2
                  go_round
                  case rel => exact ⟨k + 1, by omega, by go_num, by rw [HS.out]; exact HALL.out, .inr ⟨rfl, by rw [HS.out]; exact HV.out, rfl⟩⟩
                  case measure => simp [intOf]; omega
              · have hbk : ((k : Int) == (p : Int)) = false := by simp; omega
                have hkl : k < (posL s.data.toList).length := by rw [HU.out]; exact hlt
                have hbyte : (posL s.data.toList)[k] = (s[k]'hlt) := by
                  have h1 : (posL s.data.toList)[k]? = some (s[k]'hlt) := by
                    rw [← HB.out, List.getElem?_eq_getElem (by rw [len_data]; exact hlt)]; rfl
                  rw [List.getElem?_eq_getElem hkl] at h1
                  simpa using h1
                have hs1 := prefD_step (t := posL s.data.toList) (p := p) hkl hkp
                rw [hbyte] at hs1
                have HS := Lib.hid hs1
                have hmem := refDig_mem (t := posL s.data.toList) (p := p) (by rw [HU.out]; exact HPE.out) hkl hkp
                rw [hbyte] at hmem
                have HMEM := Lib.hid hmem
                clear hs1 hbyte hkp hmem hkl
                have hbad : dgt (s[k]'hlt) = false → synB s.data.toList = false := by
                  intro hd
                  cases h : synB s.data.toList with
                  | false => rfl
                  | true =>
                    have h1 := (syn_digits h).1
                    rw [(syn_pre h).2] at h1
                    have := List.all_eq_true.1 h1 _ HMEM.out
                    rw [hd] at this; cases this
                have HBAD := Lib.hid hbad; clear hbad
                by_cases h1 : ((s[k]'hlt).toNat : Int) < 48
                · have HF := Lib.hid (ps_bad (HBAD.out (dgt_lo h1)))
                  rcases hcase with ⟨rfl, hv, rfl⟩ | ⟨rfl, hv, rfl⟩
                  all_goals
                    go_wp2
                    go_ret2
                    exact ⟨ret_ints HF.out.1.symm HF.out.2.symm, rfl⟩
                · by_cases h2 : (57 : Int) < ((s[k]'hlt).toNat : Int)
                  · have HF := Lib.hid (ps_bad (HBAD.out (dgt_hi h2)))
                    rcases hcase with ⟨rfl, hv, rfl⟩ | ⟨rfl, hv, rfl⟩
                    all_goals
                      go_wp2
                      go_ret2
                      exact ⟨ret_ints HF.out.1.symm HF.out.2.symm, rfl⟩
                  · have hdg := dgt_mk (c := (s[k]'hlt)) (by omega) (by omega)
                    have HDG := Lib.hid hdg; clear hdg
                    have hnn := valL_nonneg _ HALL.out
                    have HVS : Hid (valL (prefD (posL s.data.toList) p (k + 1)) = 10 * valL (prefD (posL s.data.toList) p k) + (((s[k]'hlt).toNat : Int) - 48)) := Lib.hid (by rw [HS.out, valL_snoc]; rfl)
                    have HAS : Hid ((prefD (posL s.data.toList) p (k + 1)).all dgt = true) := Lib.hid (by rw [HS.out, all_snoc, HALL.out, HDG.out]; rfl)
                    generalize valL (prefD (posL s.data.toList) p k) = v at *
                    rcases hcase with ⟨rfl, hv, rfl⟩ | ⟨rfl, hv, rfl⟩
                    · by_cases hbig : 1125899906842624 < 10 * v + (((s[k]'hlt).toNat : Int) - 48)
                      · go_wp2
                        go_round
                        case rel => exact ⟨k + 1, by omega, by go_num, HAS.out, .inr ⟨rfl, by rw [HVS.out]; exact hbig, rfl⟩⟩
                        case measure => simp [intOf]; omega
                      · go_wp2
                        go_round
                        case rel => exact ⟨k + 1, by omega, by go_num, HAS.out, .inl ⟨rfl, by rw [HVS.out]; omega, by rw [HVS.out]⟩⟩
                        case measure => simp [intOf]; omega
                    · go_wp2
                      go_round
                      case rel => exact ⟨k + 1, by omega, by go_num, HAS.out, .inr ⟨rfl, by rw [HVS.out]; omega, rfl⟩⟩
                      case measure => simp [intOf]; omega
            · obtain rfl : k = s.size := by omega
              have hfull : prefD (posL s.data.toList) p s.size = refDig (posL s.data.toList) := by
                rw [← HU.out]; exact prefD_all (by rw [HU.out]; exact HPE.out)
              have hall := HALL.out
              rw [hfull] at hall hcase
              have hps := pre_syn HPRE.out hall
              have hmz := minus_zero HPRE.out hall
              have hnn := valL_nonneg _ hall
              have hneg : Lib.hasPrefix s.data.toList [45] = false := HN.out
              rw [hneg] at hmz
              have hsyn : synB s.data.toList = !(false && decide (valL (refDig (posL s.data.toList)) = 0)) := by
                unfold synB
                rw [hps.1, hps.2.1, hmz]; rfl
              have hdl := hps.2.2
              clear hps hmz hfull HALL hall
              rcases hcase with ⟨rfl, hv, rfl⟩ | ⟨rfl, hv, rfl⟩
              · have heq : posL s.data.toList = s.data.toList := by
                  rcases posL_cases s.data.toList with ⟨h, _⟩ | ⟨_, h⟩
                  · rw [hneg] at h; cases h
                  · exact h
                have HF := Lib.hid (ps_pos (l := s.data.toList) (by rw [hsyn]; rfl) (by rw [hdl]; exact hv) heq)
                rw [hdl] at HF
                clear hsyn hdl hneg heq
                generalize valL (refDig (posL s.data.toList)) = v at *
                go_wp2
                go_ret2
                exact ⟨ret_ints HF.out.1.symm HF.out.2.symm, rfl⟩
              · have hz0 : decide (valL (refDig (posL s.data.toList)) = 0) = false := decide_eq_false (by omega)
                have HF := Lib.hid (ps_big (l := s.data.toList) (by rw [hsyn, hz0]; rfl) (by rw [hdl]; exact hv))
                clear hz0
                clear hsyn hdl hneg
                generalize valL (refDig (posL s.data.toList)) = v at *
                go_wp2
                go_ret2
                exact ⟨ret_ints HF.out.1.symm HF.out.2.symm, rfl⟩
    · have b46 : (((s[p]'hpl).toNat : Int) != 46) = true := by
        rw [bne_iff_ne]
        exact fun h => h46 (UInt8.toNat_inj.1 (Int.ofNat.inj h))
      have HF := Lib.hid (ps_bad (l := s.data.toList) (by
        cases h : synB s.data.toList with
        | false => rfl
        | true =>
          have := (syn_pre h).1.2.1
          rw [HAT.out] at this
          exact absurd (by simpa using this) h46))
      clear h46
      go_enter Tryd.func34, Tryd.ntmps34
      go_wp2
      go_ret2
      exact ⟨ret_ints HF.out.1.symm HF.out.2.symm, rfl⟩
end Go.Proofs.YtieehofijndelaaDoor
