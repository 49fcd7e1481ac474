/- Walks: a product is checked, in the program and in the reference. -/
import Derived.Test.YthjckkcafhiomaaPdB
namespace Go.Proofs.Ythjckkcafhiomaa.Pd
open Go.RowKit

theorem checkBundle_is (b : Bn) (v : Int) (hv : ckN b = v) (w : World) (h : BnOk w b) : Calls Try.prog 36 #[.agg b.cells] w fun e w' => e = .returned (.int .i64 v) ∧ Below w.heap.size w w' := by
  subst hv; exact checkBundle_any b w h
theorem refBundle_is (b : Bn) (v : Int) (hv : ckN b = v) (w : World) (h : BnOk w b) : Calls Try.prog 41 #[.agg b.cells] w fun e w' => e = .returned (.int .i64 v) ∧ Below w.heap.size w w' := by
  subst hv; exact refBundle_any b w h
section
variable {p : Pr}
theorem ckP_nm (h : nmOk p.nm = false) : ckP p = 8 := by unfold ckP; rw [if_pos h]
theorem ckP_fr (h : nmOk p.nm = true) (h2 : p.fr < 0 ∨ 12622780800 ≤ p.fr) : ckP p = 15 := by unfold ckP; rw [if_neg (by simp [h]), if_pos h2]
theorem ckP_fe (h : nmOk p.nm = true) (h2 : ¬ (p.fr < 0 ∨ 12622780800 ≤ p.fr)) (h3 : p.fe < 0 ∨ 1125899906842624 < p.fe) : ckP p = 6 := by unfold ckP; rw [if_neg (by simp [h]), if_neg h2, if_pos h3]
theorem ckP_ca (h : nmOk p.nm = true) (h2 : ¬ (p.fr < 0 ∨ 12622780800 ≤ p.fr)) (h3 : ¬ (p.fe < 0 ∨ 1125899906842624 < p.fe)) (h4 : nmOk p.ca = false) : ckP p = 8 := by unfold ckP; rw [if_neg (by simp [h]), if_neg h2, if_neg h3, if_pos h4]
theorem ckP_len (h : nmOk p.nm = true) (h2 : ¬ (p.fr < 0 ∨ 12622780800 ≤ p.fr)) (h3 : ¬ (p.fe < 0 ∨ 1125899906842624 < p.fe)) (h4 : nmOk p.ca = true) (h5 : 64 < p.bs.length) : ckP p = 5 := by
  unfold ckP; rw [if_neg (by simp [h]), if_neg h2, if_neg h3, if_neg (by simp [h4]), if_pos h5]
theorem ckP_go (h : nmOk p.nm = true) (h2 : ¬ (p.fr < 0 ∨ 12622780800 ≤ p.fr)) (h3 : ¬ (p.fe < 0 ∨ 1125899906842624 < p.fe)) (h4 : nmOk p.ca = true) (h5 : ¬ 64 < p.bs.length) : ckP p = fst0 (bAt p.bs) p.bs.length := by
  unfold ckP; rw [if_neg (by simp [h]), if_neg h2, if_neg h3, if_neg (by simp [h4]), if_neg h5]
end
set_option maxRecDepth 100000 in
set_option maxHeartbeats 16000000 in
theorem checkProduct_any (p : Pr) (w : World) (h : PrOk w p) : Calls Try.prog 23 #[.agg p.cells] w fun e w' => e = .returned (.int .i64 (ckP p)) ∧ Below w.heap.size w w' := by
  obtain ⟨nm, fr, fe, ca, pr, A, n, c, bs⟩ := p
  obtain ⟨L, hL⟩ : ∃ L, w.alloc (.cells #[.string nm, .int .i64 fr, .int .i64 fe, .string ca, .bool pr, .slice A n c] 29) = L := ⟨_, rfl⟩
  obtain ⟨g, hg⟩ : ∃ g, w.heap.size = g := ⟨_, rfl⟩
  have hbL : Below w.heap.size w L := hL ▸ below_one w _
  have hQ : Blk L g 29 #[.string nm, .int .i64 fr, .int .i64 fe, .string ca, .bool pr, .slice A n c] := hL ▸ hg ▸ Blk.new w _ _
  obtain ⟨v0, hv0⟩ : ∃ v, nmOk nm = v := ⟨_, rfl⟩
  obtain ⟨v1, hv1⟩ : ∃ v, nmOk ca = v := ⟨_, rfl⟩
  obtain ⟨v2, hv2⟩ : ∃ v, (decide (0 ≤ fr) && decide (fr ≤ 12622780799)) = v := ⟨_, rfl⟩
  obtain ⟨v3, hv3⟩ : ∃ v, (decide (-1125899906842624 ≤ fe) && decide (fe ≤ 1125899906842624)) = v := ⟨_, rfl⟩
  have HN0 := Lib.hid (fun W => nameValid_is nm v0 hv0 W h.nm); have HN1 := Lib.hid (fun W => nameValid_is ca v1 hv1 W h.ca)
  have HK := Lib.hid (within_is fr 0 12622780799 v2 hv2); have HF := Lib.hid (amtValid_is fe v3 hv3)
  have HBC := Lib.hid hbL; have HQC := Lib.hid hQ
  have HH := Lib.hid h
  have hmx : n ≤ maxLen := Nat.le_trans h.cap h.max
  have hn : bs.length = n := h.len
  unfold maxLen at hmx
  obtain ⟨c0, c1, c2, c3, c4, c5⟩ := hQ.six
  unfold Pr.cells
  simp only
  clear h hbL hQ
  cases v0
  · have HR := Lib.hid (ckP_nm (p := ⟨nm, fr, fe, ca, pr, A, n, c, bs⟩) hv0)
    clear hv0 hv1 hv2 hv3
    go_enter Try.func23, Try.ntmps23
    go_wp2_with (first
      | (go_at_call 33; (first | with_reducible refine (HN0.out _).mono ?_ | with_reducible refine (HN1.out _).mono ?_); rintro e w1 ⟨rfl, hb1⟩; replace HQC := Lib.hid (HQC.out.below hb1 HQC.out.lt); replace HBC := Lib.hid (HBC.out.trans (hb1.mono HBC.out.size)); clear c0 c1 c2 c3 c4 c5; obtain ⟨c0, c1, c2, c3, c4, c5⟩ := HQC.out.six; clear hb1)
      | (go_at_call 34; (with_reducible refine (HK.out _).mono ?_); rintro e w1 ⟨rfl, rfl⟩)
      | (go_at_call 35; (with_reducible refine (HF.out _).mono ?_); rintro e w1 ⟨rfl, rfl⟩))
    go_ret
    exact ⟨ret_i64 HR.out.symm, HBC.out⟩
  by_cases h2 : fr < 0 ∨ 12622780800 ≤ fr
  · have HR := Lib.hid (ckP_fr (p := ⟨nm, fr, fe, ca, pr, A, n, c, bs⟩) hv0 h2)
    obtain rfl : v2 = false := by rw [← hv2]; simp; omega
    have hw : decide (fr < 0) = true ∨ (decide (fr < 0) = false ∧ decide (12622780800 ≤ fr) = true) := by simp; omega
    clear hv0 hv1 hv2 hv3 h2
    rcases hw with d1 | ⟨d1, d2⟩
    all_goals
      go_enter Try.func23, Try.ntmps23
      go_wp2_with (first
      | (go_at_call 33; (first | with_reducible refine (HN0.out _).mono ?_ | with_reducible refine (HN1.out _).mono ?_); rintro e w1 ⟨rfl, hb1⟩; replace HQC := Lib.hid (HQC.out.below hb1 HQC.out.lt); replace HBC := Lib.hid (HBC.out.trans (hb1.mono HBC.out.size)); clear c0 c1 c2 c3 c4 c5; obtain ⟨c0, c1, c2, c3, c4, c5⟩ := HQC.out.six; clear hb1)
      | (go_at_call 34; (with_reducible refine (HK.out _).mono ?_); rintro e w1 ⟨rfl, rfl⟩)
      | (go_at_call 35; (with_reducible refine (HF.out _).mono ?_); rintro e w1 ⟨rfl, rfl⟩))
      go_ret
      exact ⟨ret_i64 HR.out.symm, HBC.out⟩
  have d1 : decide (fr < 0) = false := decide_eq_false (by omega)
  have d2 : decide (12622780800 ≤ fr) = false := decide_eq_false (by omega)
  obtain rfl : v2 = true := by rw [← hv2]; simp; omega
  by_cases h3 : fe < 0 ∨ 1125899906842624 < fe
  · have HR := Lib.hid (ckP_fe (p := ⟨nm, fr, fe, ca, pr, A, n, c, bs⟩) hv0 h2 h3)
    have hw : decide (fe < 0) = true ∨ (v3 = false ∧ decide (fe < 0) = false ∧ decide (1125899906842624 < fe) = true) := by rw [← hv3]; simp; omega
    clear hv0 hv1 hv2 hv3 h2 h3
    rcases hw with d3 | ⟨rfl, d3, d4⟩
    all_goals
      go_enter Try.func23, Try.ntmps23
      go_wp2_with (first
      | (go_at_call 33; (first | with_reducible refine (HN0.out _).mono ?_ | with_reducible refine (HN1.out _).mono ?_); rintro e w1 ⟨rfl, hb1⟩; replace HQC := Lib.hid (HQC.out.below hb1 HQC.out.lt); replace HBC := Lib.hid (HBC.out.trans (hb1.mono HBC.out.size)); clear c0 c1 c2 c3 c4 c5; obtain ⟨c0, c1, c2, c3, c4, c5⟩ := HQC.out.six; clear hb1)
      | (go_at_call 34; (with_reducible refine (HK.out _).mono ?_); rintro e w1 ⟨rfl, rfl⟩)
      | (go_at_call 35; (with_reducible refine (HF.out _).mono ?_); rintro e w1 ⟨rfl, rfl⟩))
      go_ret
      exact ⟨ret_i64 HR.out.symm, HBC.out⟩
  have d3 : decide (fe < 0) = false := decide_eq_false (by omega)
  have d4 : decide (1125899906842624 < fe) = false := decide_eq_false (by omega)
  obtain rfl : v3 = true := by rw [← hv3]; simp; omega
  cases v1
  · have HR := Lib.hid (ckP_ca (p := ⟨nm, fr, fe, ca, pr, A, n, c, bs⟩) hv0 h2 h3 hv1)
    clear hv0 hv1 hv2 hv3 h2 h3
    go_enter Try.func23, Try.ntmps23
    go_wp2_with (first
      | (go_at_call 33; (first | with_reducible refine (HN0.out _).mono ?_ | with_reducible refine (HN1.out _).mono ?_); rintro e w1 ⟨rfl, hb1⟩; replace HQC := Lib.hid (HQC.out.below hb1 HQC.out.lt); replace HBC := Lib.hid (HBC.out.trans (hb1.mono HBC.out.size)); clear c0 c1 c2 c3 c4 c5; obtain ⟨c0, c1, c2, c3, c4, c5⟩ := HQC.out.six; clear hb1)
      | (go_at_call 34; (with_reducible refine (HK.out _).mono ?_); rintro e w1 ⟨rfl, rfl⟩)
      | (go_at_call 35; (with_reducible refine (HF.out _).mono ?_); rintro e w1 ⟨rfl, rfl⟩))
    go_ret
    exact ⟨ret_i64 HR.out.symm, HBC.out⟩
  by_cases h5 : 64 < bs.length
  · have HR := Lib.hid (ckP_len (p := ⟨nm, fr, fe, ca, pr, A, n, c, bs⟩) hv0 h2 h3 hv1 h5)
    have d5 : decide (64 < (n : Int)) = true := decide_eq_true (by omega)
    clear hv0 hv1 hv2 hv3 h2 h3 h5
    go_enter Try.func23, Try.ntmps23
    go_wp2_with (first
      | (go_at_call 33; (first | with_reducible refine (HN0.out _).mono ?_ | with_reducible refine (HN1.out _).mono ?_); rintro e w1 ⟨rfl, hb1⟩; replace HQC := Lib.hid (HQC.out.below hb1 HQC.out.lt); replace HBC := Lib.hid (HBC.out.trans (hb1.mono HBC.out.size)); clear c0 c1 c2 c3 c4 c5; obtain ⟨c0, c1, c2, c3, c4, c5⟩ := HQC.out.six; clear hb1)
      | (go_at_call 34; (with_reducible refine (HK.out _).mono ?_); rintro e w1 ⟨rfl, rfl⟩)
      | (go_at_call 35; (with_reducible refine (HF.out _).mono ?_); rintro e w1 ⟨rfl, rfl⟩))
    go_ret
    exact ⟨ret_i64 HR.out.symm, HBC.out⟩
  have d5 : decide (64 < (n : Int)) = false := decide_eq_false (by omega)
  have HR := Lib.hid (ckP_go (p := ⟨nm, fr, fe, ca, pr, A, n, c, bs⟩) hv0 h2 h3 hv1 h5)
  have HN := Lib.hid hn
  clear hv0 hv1 hv2 hv3 h2 h3 h5 hn
  go_enter Try.func23, Try.ntmps23
  go_wp2_with (first
      | (go_at_call 33; (first | with_reducible refine (HN0.out _).mono ?_ | with_reducible refine (HN1.out _).mono ?_); rintro e w1 ⟨rfl, hb1⟩; replace HQC := Lib.hid (HQC.out.below hb1 HQC.out.lt); replace HBC := Lib.hid (HBC.out.trans (hb1.mono HBC.out.size)); clear c0 c1 c2 c3 c4 c5; obtain ⟨c0, c1, c2, c3, c4, c5⟩ := HQC.out.six; clear hb1)
      | (go_at_call 34; (with_reducible refine (HK.out _).mono ?_); rintro e w1 ⟨rfl, rfl⟩)
      | (go_at_call 35; (with_reducible refine (HF.out _).mono ?_); rintro e w1 ⟨rfl, rfl⟩))
  clear d1 d2 d3 d4 d5 hL hg
  go_loopw [39] (fun iv wr => ∃ k : Nat, iv = .int .i64 k ∧ k ≤ n ∧ Hid (Below w.heap.size w wr) ∧ Hid (Blk wr g 29 #[.string nm, .int .i64 fr, .int .i64 fe, .string ca, .bool pr, .slice A n c]) ∧ Hid (fst0 (bAt bs) k = 0)) (fun iv _ => n - (intOf iv).toNat)
  case atStart => exact ⟨0, rfl, by omega, HBC, HQC, Lib.hid rfl⟩
  case round =>
    obtain ⟨k, rfl, hk, HB, HQ, HO⟩ := hrel
    obtain ⟨c0, c1, c2, c3, c4, c5⟩ := HQ.out.six
    by_cases hlt : k < n
    · have hkl : k < bs.length := by rw [HN.out]; exact hlt
      have hlt' : (k : Int) < (n : Int) := by omega
      obtain ⟨bk, off, rfl, hbl, hcs, hok⟩ := HH.out.bs k hkl
      have hcs := hcs.below HB.out hbl
      have hok := hok.below HB.out
      obtain ⟨ev, hev⟩ : ∃ ev, bAt bs k = ev := ⟨_, rfl⟩
      have hev2 := hev
      unfold bAt at hev2
      obtain ⟨b, hb⟩ : ∃ b, bs.getD k bn0 = b := ⟨_, rfl⟩
      rw [hb] at hcs hok hev2
      have HCK := Lib.hid (fun (W : World) (hb : Below wr.heap.size wr W) => checkBundle_is b ev hev2 W (hok.below hb))
      have HEV := Lib.hid hev; have HKL := Lib.hid hkl
      obtain ⟨bkk, bA, bN, bC, bu, br, bp, bsh, zs⟩ := b
      unfold Bn.cells at hcs HCK
      simp only at hcs HCK
      obtain ⟨e0, e1, e2, e3, e4, e5⟩ := hcs.all
      obtain ⟨R, hR⟩ : ∃ R, wr.alloc (.cells #[.int .i64 bkk, .slice bA bN bC, .int .i64 bu, .int .i64 br, .int .i64 bp, .bool bsh] 48) = R := ⟨_, rfl⟩
      obtain ⟨q, hq⟩ : ∃ q, wr.heap.size = q := ⟨_, rfl⟩
      have hbR : Below wr.heap.size wr R := hR ▸ below_one wr _
      have hqR : Blk R q 48 #[.int .i64 bkk, .slice bA bN bC, .int .i64 bu, .int .i64 br, .int .i64 bp, .bool bsh] := hR ▸ hq ▸ Blk.new wr _ _
      obtain ⟨q0, q1, q2, q3, q4, q5⟩ := hqR.six
      have HRB := Lib.hid hbR
      have HBR := Lib.hid (HB.out.trans (hbR.mono HB.out.size)); have HQR := Lib.hid (HQ.out.below hbR HQ.out.lt)
      clear hqR hbR
      clear hcs hok hev hev2 hb hbl hkl
      by_cases h0 : ev = 0
      · subst h0
        have HO2 := Lib.hid (fst0_next HO.out HEV.out)
        go_wp2_with (go_at_call 36; (with_reducible refine (HCK.out _ HRB.out).mono ?_); rintro e w1 ⟨rfl, hb1⟩; have HB2 := Lib.hid (HBR.out.trans (hb1.mono HBR.out.size)); have HQ2 := Lib.hid (HQR.out.below hb1 HQR.out.lt); clear hb1)
        go_roundw
        case rel => exact ⟨k + 1, by go_num, by omega, HB2, HQ2, HO2⟩
        case measure => simp [intOf]; omega
      · have HR2 := Lib.hid (HR.out.trans (fst0_hit (n := bs.length) HO.out HEV.out h0 HKL.out))
        have h0q : (ev != 0) = true := by simp [h0]
        clear h0
        go_wp2_with (go_at_call 36; (with_reducible refine (HCK.out _ HRB.out).mono ?_); rintro e w1 ⟨rfl, hb1⟩; have HB2 := Lib.hid (HBR.out.trans (hb1.mono HBR.out.size)); clear hb1)
        go_ret
        exact ⟨ret_i64 HR2.out.symm, HB2.out⟩
    · obtain rfl : k = n := by omega
      have HR2 : Hid (ckP ⟨nm, fr, fe, ca, pr, A, k, c, bs⟩ = 0) := Lib.hid (by rw [HR.out]; show fst0 (bAt bs) bs.length = 0; rw [HN.out]; exact HO.out)
      go_wp2_with fail
      go_ret
      exact ⟨ret_i64 HR2.out.symm, HB.out⟩
set_option maxRecDepth 100000 in
set_option maxHeartbeats 16000000 in
theorem refOne_any (p : Pr) (w : World) (h : PrOk w p) : Calls Try.prog 25 #[.agg p.cells] w fun e w' => e = .returned (.int .i64 (ckP p)) ∧ Below w.heap.size w w' := by
  obtain ⟨nm, fr, fe, ca, pr, A, n, c, bs⟩ := p
  obtain ⟨L, hL⟩ : ∃ L, w.alloc (.cells #[.string nm, .int .i64 fr, .int .i64 fe, .string ca, .bool pr, .slice A n c] 29) = L := ⟨_, rfl⟩
  obtain ⟨g, hg⟩ : ∃ g, w.heap.size = g := ⟨_, rfl⟩
  have hbL : Below w.heap.size w L := hL ▸ below_one w _
  have hQ : Blk L g 29 #[.string nm, .int .i64 fr, .int .i64 fe, .string ca, .bool pr, .slice A n c] := hL ▸ hg ▸ Blk.new w _ _
  obtain ⟨v0, hv0⟩ : ∃ v, nmOk nm = v := ⟨_, rfl⟩
  obtain ⟨v1, hv1⟩ : ∃ v, nmOk ca = v := ⟨_, rfl⟩
  obtain ⟨v2, hv2⟩ : ∃ v, (decide (0 ≤ fr) && decide (fr ≤ 12622780799)) = v := ⟨_, rfl⟩
  obtain ⟨v3, hv3⟩ : ∃ v, (decide (-1125899906842624 ≤ fe) && decide (fe ≤ 1125899906842624)) = v := ⟨_, rfl⟩
  have HN0 := Lib.hid (fun W => refName_is nm v0 hv0 W h.nm); have HN1 := Lib.hid (fun W => refName_is ca v1 hv1 W h.ca)
  have HK := Lib.hid (within_is fr 0 12622780799 v2 hv2); have HF := Lib.hid (amtValid_is fe v3 hv3)
  have HBC := Lib.hid hbL; have HQC := Lib.hid hQ
  have HH := Lib.hid h
  have hmx : n ≤ maxLen := Nat.le_trans h.cap h.max
  have hn : bs.length = n := h.len
  unfold maxLen at hmx
  obtain ⟨c0, c1, c2, c3, c4, c5⟩ := hQ.six
  unfold Pr.cells
  simp only
  clear h hbL hQ
  cases v0
  · have HR := Lib.hid (ckP_nm (p := ⟨nm, fr, fe, ca, pr, A, n, c, bs⟩) hv0)
    clear hv0 hv1 hv2 hv3
    go_enter Try.func25, Try.ntmps25
    go_wp2_with (go_at_call 40; (first | with_reducible refine (HN0.out _).mono ?_ | with_reducible refine (HN1.out _).mono ?_); rintro e w1 ⟨rfl, hb1⟩; replace HQC := Lib.hid (HQC.out.below hb1 HQC.out.lt); replace HBC := Lib.hid (HBC.out.trans (hb1.mono HBC.out.size)); clear c0 c1 c2 c3 c4 c5; obtain ⟨c0, c1, c2, c3, c4, c5⟩ := HQC.out.six; clear hb1)
    go_ret
    exact ⟨ret_i64 HR.out.symm, HBC.out⟩
  by_cases h2 : fr < 0 ∨ 12622780800 ≤ fr
  · have HR := Lib.hid (ckP_fr (p := ⟨nm, fr, fe, ca, pr, A, n, c, bs⟩) hv0 h2)
    obtain rfl : v2 = false := by rw [← hv2]; simp; omega
    have hw : decide (fr < 0) = true ∨ (decide (fr < 0) = false ∧ decide (12622780800 ≤ fr) = true) := by simp; omega
    clear hv0 hv1 hv2 hv3 h2
    rcases hw with d1 | ⟨d1, d2⟩
    all_goals
      go_enter Try.func25, Try.ntmps25
      go_wp2_with (go_at_call 40; (first | with_reducible refine (HN0.out _).mono ?_ | with_reducible refine (HN1.out _).mono ?_); rintro e w1 ⟨rfl, hb1⟩; replace HQC := Lib.hid (HQC.out.below hb1 HQC.out.lt); replace HBC := Lib.hid (HBC.out.trans (hb1.mono HBC.out.size)); clear c0 c1 c2 c3 c4 c5; obtain ⟨c0, c1, c2, c3, c4, c5⟩ := HQC.out.six; clear hb1)
      go_ret
      exact ⟨ret_i64 HR.out.symm, HBC.out⟩
  have d1 : decide (fr < 0) = false := decide_eq_false (by omega)
  have d2 : decide (12622780800 ≤ fr) = false := decide_eq_false (by omega)
  obtain rfl : v2 = true := by rw [← hv2]; simp; omega
  by_cases h3 : fe < 0 ∨ 1125899906842624 < fe
  · have HR := Lib.hid (ckP_fe (p := ⟨nm, fr, fe, ca, pr, A, n, c, bs⟩) hv0 h2 h3)
    have hw : decide (fe < 0) = true ∨ (v3 = false ∧ decide (fe < 0) = false ∧ decide (1125899906842624 < fe) = true) := by rw [← hv3]; simp; omega
    clear hv0 hv1 hv2 hv3 h2 h3
    rcases hw with d3 | ⟨rfl, d3, d4⟩
    all_goals
      go_enter Try.func25, Try.ntmps25
      go_wp2_with (go_at_call 40; (first | with_reducible refine (HN0.out _).mono ?_ | with_reducible refine (HN1.out _).mono ?_); rintro e w1 ⟨rfl, hb1⟩; replace HQC := Lib.hid (HQC.out.below hb1 HQC.out.lt); replace HBC := Lib.hid (HBC.out.trans (hb1.mono HBC.out.size)); clear c0 c1 c2 c3 c4 c5; obtain ⟨c0, c1, c2, c3, c4, c5⟩ := HQC.out.six; clear hb1)
      go_ret
      exact ⟨ret_i64 HR.out.symm, HBC.out⟩
  have d3 : decide (fe < 0) = false := decide_eq_false (by omega)
  have d4 : decide (1125899906842624 < fe) = false := decide_eq_false (by omega)
  obtain rfl : v3 = true := by rw [← hv3]; simp; omega
  cases v1
  · have HR := Lib.hid (ckP_ca (p := ⟨nm, fr, fe, ca, pr, A, n, c, bs⟩) hv0 h2 h3 hv1)
    clear hv0 hv1 hv2 hv3 h2 h3
    go_enter Try.func25, Try.ntmps25
    go_wp2_with (go_at_call 40; (first | with_reducible refine (HN0.out _).mono ?_ | with_reducible refine (HN1.out _).mono ?_); rintro e w1 ⟨rfl, hb1⟩; replace HQC := Lib.hid (HQC.out.below hb1 HQC.out.lt); replace HBC := Lib.hid (HBC.out.trans (hb1.mono HBC.out.size)); clear c0 c1 c2 c3 c4 c5; obtain ⟨c0, c1, c2, c3, c4, c5⟩ := HQC.out.six; clear hb1)
    go_ret
    exact ⟨ret_i64 HR.out.symm, HBC.out⟩
  by_cases h5 : 64 < bs.length
  · have HR := Lib.hid (ckP_len (p := ⟨nm, fr, fe, ca, pr, A, n, c, bs⟩) hv0 h2 h3 hv1 h5)
    have d5 : decide (64 < (n : Int)) = true := decide_eq_true (by omega)
    clear hv0 hv1 hv2 hv3 h2 h3 h5
    go_enter Try.func25, Try.ntmps25
    go_wp2_with (go_at_call 40; (first | with_reducible refine (HN0.out _).mono ?_ | with_reducible refine (HN1.out _).mono ?_); rintro e w1 ⟨rfl, hb1⟩; replace HQC := Lib.hid (HQC.out.below hb1 HQC.out.lt); replace HBC := Lib.hid (HBC.out.trans (hb1.mono HBC.out.size)); clear c0 c1 c2 c3 c4 c5; obtain ⟨c0, c1, c2, c3, c4, c5⟩ := HQC.out.six; clear hb1)
    go_ret
    exact ⟨ret_i64 HR.out.symm, HBC.out⟩
  have d5 : decide (64 < (n : Int)) = false := decide_eq_false (by omega)
  have HR := Lib.hid (ckP_go (p := ⟨nm, fr, fe, ca, pr, A, n, c, bs⟩) hv0 h2 h3 hv1 h5)
  have HN := Lib.hid hn
  clear hv0 hv1 hv2 hv3 h2 h3 h5 hn
  go_enter Try.func25, Try.ntmps25
  go_wp2_with (go_at_call 40; (first | with_reducible refine (HN0.out _).mono ?_ | with_reducible refine (HN1.out _).mono ?_); rintro e w1 ⟨rfl, hb1⟩; replace HQC := Lib.hid (HQC.out.below hb1 HQC.out.lt); replace HBC := Lib.hid (HBC.out.trans (hb1.mono HBC.out.size)); clear c0 c1 c2 c3 c4 c5; obtain ⟨c0, c1, c2, c3, c4, c5⟩ := HQC.out.six; clear hb1)
  clear d1 d2 d3 d4 d5 hL hg
  go_loopw [3] (fun iv wr => ∃ k : Nat, iv = .int .i64 k ∧ k ≤ n ∧ Hid (Below w.heap.size w wr) ∧ Hid (Blk wr g 29 #[.string nm, .int .i64 fr, .int .i64 fe, .string ca, .bool pr, .slice A n c]) ∧ Hid (fst0 (bAt bs) k = 0)) (fun iv _ => n - (intOf iv).toNat)
  case atStart => exact ⟨0, rfl, by omega, HBC, HQC, Lib.hid rfl⟩
  case round =>
    obtain ⟨k, rfl, hk, HB, HQ, HO⟩ := hrel
    obtain ⟨c0, c1, c2, c3, c4, c5⟩ := HQ.out.six
    by_cases hlt : k < n
    · have hkl : k < bs.length := by rw [HN.out]; exact hlt
      have hlt' : (k : Int) < (n : Int) := by omega
      obtain ⟨bk, off, rfl, hbl, hcs, hok⟩ := HH.out.bs k hkl
      have hcs := hcs.below HB.out hbl
      have hok := hok.below HB.out
      obtain ⟨ev, hev⟩ : ∃ ev, bAt bs k = ev := ⟨_, rfl⟩
      have hev2 := hev
      unfold bAt at hev2
      obtain ⟨b, hb⟩ : ∃ b, bs.getD k bn0 = b := ⟨_, rfl⟩
      rw [hb] at hcs hok hev2
      have HCK := Lib.hid (fun (W : World) (hb : Below wr.heap.size wr W) => refBundle_is b ev hev2 W (hok.below hb))
      have HEV := Lib.hid hev; have HKL := Lib.hid hkl
      obtain ⟨bkk, bA, bN, bC, bu, br, bp, bsh, zs⟩ := b
      unfold Bn.cells at hcs HCK
      simp only at hcs HCK
      obtain ⟨e0, e1, e2, e3, e4, e5⟩ := hcs.all
      have HRB := Lib.hid (Below.refl wr.heap.size wr)
      have HBR := HB; have HQR := HQ
      clear hcs hok hev hev2 hb hbl hkl
      by_cases h0 : ev = 0
      · subst h0
        have HO2 := Lib.hid (fst0_next HO.out HEV.out)
        go_wp2_with (go_at_call 41; (with_reducible refine (HCK.out _ HRB.out).mono ?_); rintro e w1 ⟨rfl, hb1⟩; have HB2 := Lib.hid (HBR.out.trans (hb1.mono HBR.out.size)); have HQ2 := Lib.hid (HQR.out.below hb1 HQR.out.lt); clear hb1)
        go_roundw
        case rel => exact ⟨k + 1, by go_num, by omega, HB2, HQ2, HO2⟩
        case measure => simp [intOf]; omega
      · have HR2 := Lib.hid (HR.out.trans (fst0_hit (n := bs.length) HO.out HEV.out h0 HKL.out))
        have h0q : (ev != 0) = true := by simp [h0]
        clear h0
        go_wp2_with (go_at_call 41; (with_reducible refine (HCK.out _ HRB.out).mono ?_); rintro e w1 ⟨rfl, hb1⟩; have HB2 := Lib.hid (HBR.out.trans (hb1.mono HBR.out.size)); clear hb1)
        go_ret
        exact ⟨ret_i64 HR2.out.symm, HB2.out⟩
    · obtain rfl : k = n := by omega
      have HR2 : Hid (ckP ⟨nm, fr, fe, ca, pr, A, k, c, bs⟩ = 0) := Lib.hid (by rw [HR.out]; show fst0 (bAt bs) bs.length = 0; rw [HN.out]; exact HO.out)
      go_wp2_with fail
      go_ret
      exact ⟨ret_i64 HR2.out.symm, HB.out⟩
end Go.Proofs.Ythjckkcafhiomaa.Pd
