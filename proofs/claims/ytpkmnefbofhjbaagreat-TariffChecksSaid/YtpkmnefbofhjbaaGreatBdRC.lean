/- Walks: a list of bands is checked by the reference. -/
import Derived.Test.YtpkmnefbofhjbaaGreatBdC
namespace Go.Proofs.YtpkmnefbofhjbaaGreat
open Go.RowKit

set_option maxHeartbeats 4000000 in
theorem refSlots_any (A : Option Addr) (n c : Nat) (l : List Sl) (last : Bool) (w : World) (hA : SlR w A l) (hn : l.length = n) (hc : n ≤ c) (hm : c ≤ maxLen) :
    Calls Tryz.prog 88 #[.slice A n c, .bool last] w fun e w' => e = .returned (.int .i64 (ckS l last)) ∧ Below w.heap.size w w' := by
  unfold maxLen at hm
  have hE := is_empty hn
  by_cases h0 : n = 0
  · subst h0
    obtain rfl : l = [] := by simpa using hn
    clear hA hn hE
    cases last
    all_goals
      go_enter Tryz.func88, Tryz.ntmps88
      go_wp2
      go_ret
      exact ⟨rfl, Below.refl _ _⟩
  · have d0 : ((n : Int) == 0) = false := by simp [h0]
    have d3 : decide (0 < (n : Int)) = true := decide_eq_true (by omega)
    have d4 : 0 < n := by omega
    have hE2 : l.isEmpty = false := by rw [hE]; simp [h0]
    cases last
    · by_cases h64 : 64 < n
      · have d1 : decide (64 < (n : Int)) = true := decide_eq_true (by omega)
        rw [ckS_len hE2.symm (by omega)]
        clear hA hn hE h64 h0
        go_enter Tryz.func88, Tryz.ntmps88
        go_wp2
        go_ret
        exact ⟨rfl, Below.refl _ _⟩
      · have d1 : decide (64 < (n : Int)) = false := decide_eq_false (by omega)
        have HV := Lib.hid (fun v h => ckS_is (v := v) hE2.symm (by omega) h)
        have HA := Lib.hid hA; have HN := Lib.hid hn
        clear hE hE2 hA hn h0
        go_enter Tryz.func88, Tryz.ntmps88
        go_wp2_with fail
        clear d0 d1 d3
        go_loopw [5] (fun iv wr => ∃ k : Nat, iv = .int .i64 k ∧ k ≤ n ∧ Below w.heap.size w wr ∧ Hid (∀ j, j < k → okS (l.getD j sl0) = true)) (fun iv _ => n - (intOf iv).toNat)
        case atStart => exact ⟨0, rfl, by omega, Below.refl _ _, Lib.hid fun j h => absurd h (Nat.not_lt_zero j)⟩
        case round =>
          obtain ⟨k, rfl, hk, hb, HO⟩ := hrel
          have hs := hb.size
          by_cases hlt : k < n
          · obtain ⟨bk, off, rfl, hbl, g0, g1, g2⟩ := HA.out k (by rw [HN.out]; exact hlt)
            have e0 := (hb.cell (p := ⟨bk, off + k * 3, none⟩) hbl).trans g0
            have e1 := (hb.cell (p := ⟨bk, off + k * 3 + 1, none⟩) hbl).trans g1
            have e2 := (hb.cell (p := ⟨bk, off + k * 3 + 2, none⟩) hbl).trans g2
            have hlt' : (k : Int) < (n : Int) := by omega
            obtain ⟨⟨d, f, t⟩, hp⟩ : ∃ p, l.getD k sl0 = p := ⟨_, rfl⟩
            rw [hp] at e0 e1 e2
            simp only at e0 e1 e2
            clear g0 g1 g2
            rcases slot_cases d f t with ⟨ho, c1, c2, c3, c4, c5⟩ | ⟨ho, hr⟩
            · have HO2 : Hid (∀ j, j < k + 1 → okS (l.getD j sl0) = true) := Lib.hid fun j h => by
                rcases Nat.lt_or_ge j k with h | h
                · exact HO.out j h
                · obtain rfl : j = k := by omega
                  rw [hp]; exact ho
              clear hp ho HO
              go_wp2_with fail
              go_roundw
              case rel => exact ⟨k + 1, by go_num, by omega, hb.alloc hs _, HO2⟩
              case measure => simp [intOf]; omega
            · have HR := Lib.hid (HV.out _ (okS_not (by rw [HN.out]; exact hlt) (by rw [hp]; exact ho)))
              clear hp ho HO
              rcases hr with c1 | ⟨c1, c2⟩ | ⟨c1, c2, c3⟩ | ⟨c1, c2, c3, c4⟩ | ⟨c1, c2, c3, c4, c5⟩
              all_goals
                go_wp2_with fail
                go_ret
                exact ⟨ret_i64 HR.out.symm, hb.alloc hs _⟩
          · obtain rfl : k = n := by omega
            have HR := Lib.hid (HV.out _ (okS_all fun j hj => HO.out j (by rwa [HN.out] at hj)))
            clear HO
            go_wp2_with fail
            go_ret
            exact ⟨ret_i64 HR.out.symm, hb⟩
    · rw [ckS_no (by rw [hE2]; simp)]
      clear hA hn hE hE2 h0
      go_enter Tryz.func88, Tryz.ntmps88
      go_wp2
      go_ret
      exact ⟨rfl, Below.refl _ _⟩
theorem refSlots_is (A : Option Addr) (n c : Nat) (l : List Sl) (last : Bool) (v : Int) (h : ckS l last = v) (w : World) (hA : SlR w A l) (hn : l.length = n) (hc : n ≤ c) (hm : c ≤ maxLen) :
    Calls Tryz.prog 88 #[.slice A n c, .bool last] w fun e w' => e = .returned (.int .i64 v) ∧ Below w.heap.size w w' := by
  subst h; exact refSlots_any A n c l last w hA hn hc hm
set_option maxHeartbeats 8000000 in
theorem refCheck_any (A : Option Addr) (n c : Nat) (l : List Bd) (w : World) (hA : BdR w A l) (hn : l.length = n) (hc : n ≤ c) (hm : c ≤ maxLen) :
    Calls Tryz.prog 45 #[.slice A n c] w fun e w' => e = .returned (.int .i64 (ckB l)) ∧ Below w.heap.size w w' := by
  have hmm := hm
  unfold maxLen at hm
  by_cases h0 : n = 0
  · subst h0
    obtain rfl : l = [] := by simpa using hn
    clear hA hn
    go_enter Tryz.func45, Tryz.ntmps45
    go_wp2
    go_ret
    exact ⟨rfl, Below.refl _ _⟩
  · have d0 : ((n : Int) == 0) = false := by simp [h0]
    by_cases h64 : 64 < n
    · have d1 : decide (64 < (n : Int)) = true := decide_eq_true (by omega)
      rw [show ckB l = 5 by unfold ckB; rw [if_neg (by omega), if_pos (by omega)]]
      clear hA hn h64
      go_enter Tryz.func45, Tryz.ntmps45
      go_wp2
      go_ret
      exact ⟨rfl, Below.refl _ _⟩
    · have d1 : decide (64 < (n : Int)) = false := decide_eq_false (by omega)
      have HV := Lib.hid (ckB_few (l := l) (by omega) (by omega))
      have HA := Lib.hid hA; have HN := Lib.hid hn; have HM := Lib.hid hmm
      clear hA hn hmm
      go_enter Tryz.func45, Tryz.ntmps45
      go_wp2_with fail
      clear d0 d1
      go_loopw [3] (fun iv wr => ∃ k : Nat, iv = .int .i64 k ∧ k ≤ n ∧ Below w.heap.size w wr ∧ Hid (fst0 (ckAt l) k = 0)) (fun iv _ => n - (intOf iv).toNat)
      case atStart => exact ⟨0, rfl, by omega, Below.refl _ _, Lib.hid rfl⟩
      case round =>
        obtain ⟨k, rfl, hk, hb, HO⟩ := hrel
        have hs := hb.size
        by_cases hlt : k < n
        · obtain ⟨bk, off, S, c2, rfl, hbl, g0, g1, g2, g3, g4, g5⟩ := HA.out k (by rw [HN.out]; omega)
          have e0 := (hb.cell (p := ⟨bk, off + k * 2, none⟩) hbl).trans g0
          have hlt' : (k : Int) < (n : Int) := by omega
          obtain ⟨⟨x, ss⟩, hp⟩ : ∃ p, l.getD k bd0 = p := ⟨_, rfl⟩
          rw [hp] at e0 g0 g1 g2 g4 g5
          simp only at e0 g0 g1 g2 g4 g5
          have HP := Lib.hid hp
          obtain ⟨L, hL⟩ : ∃ L, ss.length = L := ⟨_, rfl⟩
          rw [hL] at g1 g2
          have HL := Lib.hid hL
          have HG := Lib.hid (show L ≤ c2 ∧ c2 ≤ maxLen ∧ SlR w S ss ∧ x.size ≤ maxLen from ⟨g2, g3, g4, g5⟩)
          have HC0 := Lib.hid (show bk < w.heap.size ∧ w.cell? ⟨bk, off + k * 2, none⟩ = some (.string x) ∧ w.cell? ⟨bk, off + k * 2 + 1, none⟩ = some (.slice S L c2) from ⟨hbl, g0, g1⟩)
          clear g0 g1 g2 g3 g4 g5 hp hL
          cases hv : nmOk x
          · have HN1 := Lib.hid (fun W => refName_is x _ hv W HG.out.2.2.2)
            have HR := Lib.hid (HV.out.trans (fst0_hit (n := l.length) HO.out (ckAt_nm HP.out hv) (by decide) (by rw [HN.out]; exact hlt)))
            clear hv HO
            go_wp2_with (go_at_call 87; (with_reducible refine (HN1.out _).mono ?_); rintro e w1 ⟨rfl, hb1⟩; have hb2 := hb.trans (hb1.mono hs))
            go_ret
            exact ⟨ret_i64 HR.out.symm, hb2⟩
          · have HN1 := Lib.hid (fun W => refName_is x _ hv W HG.out.2.2.2)
            have HNM := Lib.hid hv
            clear hv
            go_wp2_with (go_at_call 87; (with_reducible refine (HN1.out _).mono ?_); rintro e w1 ⟨rfl, hb1⟩; have hb2 := hb.trans (hb1.mono hs))
            have hs2 := hb2.size
            clear hb1
            go_loopw [4] (fun jv wr => ∃ j q : Nat, jv = .int .i64 j ∧ j ≤ k ∧ wr = w1.drewN q ∧ Hid (∀ i, i < j → decide ((l.getD i bd0).1 = x) = false)) (fun jv _ => k - (intOf jv).toNat)
            case atStart => exact ⟨0, 0, rfl, by omega, rfl, Lib.hid fun j h => absurd h (Nat.not_lt_zero j)⟩
            case round =>
              obtain ⟨j, q, rfl, hj, rfl, HJ⟩ := hrel
              have f0 := (hb2.cell (p := ⟨bk, off + k * 2, none⟩) HC0.out.1).trans HC0.out.2.1
              by_cases hjk : j < k
              · have hjk' : (j : Int) < (k : Int) := by omega
                have hjn : (j : Int) < (n : Int) := by omega
                obtain ⟨bk', off', S', c3, hA', hbl', g0, _⟩ := HA.out j (by rw [HN.out]; omega)
                obtain ⟨rfl, rfl⟩ : bk = bk' ∧ off = off' := by simpa using hA'
                obtain ⟨⟨y, ss'⟩, hp⟩ : ∃ p, l.getD j bd0 = p := ⟨_, rfl⟩
                rw [hp] at g0
                simp only at g0
                have f1 := (hb2.cell (p := ⟨bk, off + j * 2, none⟩) hbl').trans g0
                clear hA' g0
                cases hq : decide (y = x)
                · have hq2 := sEq_is hq
                  have HJ2 : Hid (∀ i, i < j + 1 → decide ((l.getD i bd0).1 = x) = false) := Lib.hid fun i h => by
                    rcases Nat.lt_or_ge i j with h | h
                    · exact HJ.out i h
                    · obtain rfl : i = j := by omega
                      rw [hp]; exact hq
                  clear hp hq HJ
                  go_wp2_with fail
                  go_quiet (fail)
                  go_wp2_with fail
                  go_roundw
                  case rel => exact ⟨j + 1, _, by go_num, by omega, rfl, HJ2⟩
                  case measure => simp [intOf]; omega
                · have hq2 := sEq_is hq
                  have HR := Lib.hid (HV.out.trans (fst0_hit (n := l.length) HO.out (ckAt_ex HP.out HNM.out (any_take_yes (p := fun e => decide (e.1 = x)) hjk (by rw [HN.out]; omega) (by rw [hp]; exact hq))) (by decide) (by rw [HN.out]; exact hlt)))
                  clear hp hq HJ
                  go_wp2_with fail
                  go_quiet (fail)
                  go_wp2_with fail
                  go_ret
                  exact ⟨ret_i64 HR.out.symm, below_drewN (below_drewN hb2 _) _⟩
              · obtain rfl : j = k := by omega
                have hx := any_take (p := fun e => decide (e.1 = x)) (fun i hi => HJ.out i hi) (show j ≤ l.length by rw [HN.out]; omega)
                have HK := Lib.hid (ckAt_sl HP.out HNM.out hx)
                have hq : ((j : Int) + 1 == (n : Int)) = decide (j + 1 = l.length) := by rw [HN.out]; by_cases h : j + 1 = n <;> simp [h] <;> omega
                obtain ⟨last, hla⟩ : ∃ b, decide (j + 1 = l.length) = b := ⟨_, rfl⟩
                rw [hla] at hq HK
                obtain ⟨ev, hev⟩ : ∃ ev, ckS ss last = ev := ⟨_, rfl⟩
                have HS1 := Lib.hid (fun W h1 => refSlots_is S L c2 ss last ev hev W h1 HL.out HG.out.1 HG.out.2.1)
                rw [hev] at HK
                have hbq := below_drewN hb2 q
                have hsq := hbq.size
                have f2 := (hbq.cell (p := ⟨bk, off + j * 2 + 1, none⟩) HC0.out.1).trans HC0.out.2.2
                clear hla hev hx HJ f0
                generalize w1.drewN q = wq at *
                by_cases hz : ev = 0
                · subst hz
                  have HO2 := Lib.hid (fst0_next HO.out HK.out)
                  clear HO HK
                  go_wp2_with (go_at_call 88; (with_reducible refine (HS1.out _ (HG.out.2.2.1.below hbq)).mono ?_); rintro e w3 ⟨rfl, hb5⟩; have hb6 := hbq.trans (hb5.mono hsq); clear hb5)
                  go_roundw
                  case rel => exact ⟨j + 1, by go_num, by omega, hb6, HO2⟩
                  case measure => simp [intOf]; omega
                · have HR := Lib.hid (HV.out.trans (fst0_hit (n := l.length) HO.out HK.out hz (by rw [HN.out]; exact hlt)))
                  have hzq : (ev == 0) = false := by simp [hz]
                  clear HO HK hz
                  go_wp2_with (go_at_call 88; (with_reducible refine (HS1.out _ (HG.out.2.2.1.below hbq)).mono ?_); rintro e w3 ⟨rfl, hb5⟩; have hb6 := hbq.trans (hb5.mono hsq); clear hb5)
                  go_ret
                  exact ⟨ret_i64 HR.out.symm, hb6⟩
        · obtain rfl : k = n := by omega
          have HR : Hid (ckB l = 0) := Lib.hid (by rw [HV.out, HN.out]; exact HO.out)
          clear HO
          go_wp2_with fail
          go_ret
          exact ⟨ret_i64 HR.out.symm, hb⟩
end Go.Proofs.YtpkmnefbofhjbaaGreat
