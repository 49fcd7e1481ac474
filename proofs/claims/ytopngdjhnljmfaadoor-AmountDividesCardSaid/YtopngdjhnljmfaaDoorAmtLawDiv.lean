/- Walk: the law AmountDivides. -/
import Derived.Test.YtopngdjhnljmfaaDoorAmtLawSplit
import Derived.Test.YtopngdjhnljmfaaDoorRefSpl
namespace Go.Proofs.YtopngdjhnljmfaaDoor
open Go.RowKit St

theorem refSplit_any (a : Int) (A : Option Addr) (n c m W l : Nat) (zs C : List Int) (w : World) (hA : Ints w A n zs) (hn : n ≤ 64) (ha : okA a = true) (hm : mag a = (m : Int)) (hok : zs.all okU = true) (hs : zs.sum = (W : Int)) (hW : 0 < W) (hC : SP (rkAt m W zs) 0 n C) (hln : l ≤ n) (hl : (l : Int) = m - (qL m W zs).sum) :
    Calls Tryd.prog 7 #[.int .i64 a, .slice A n c] w fun e w' => ∃ g d, e = .returned (.tuple #[.slice (some ⟨g, 0, none⟩) n d, .int .i64 0]) ∧ w'.ownsRow w.heap.size 3 1 (.slice (some ⟨g, 0, none⟩) n d) n ((sgnL a (addL (qL m W zs) ((nats C).take l))).map (Value.int .i64)) ∧ Below w.heap.size w w' := by
  have hab := okA_iff.1 ha
  by_cases h : a < 0
  · have e : a = -(m : Int) := by rw [mag_neg h] at hm; omega
    have hs2 : sgnL a (addL (qL m W zs) ((nats C).take l)) = (addL (qL m W zs) ((nats C).take l)).map (fun x => -x) := if_pos h
    rw [hs2, e]
    exact refSplit_neg A n c m W l zs C w hA hn (by omega) (by omega) hok hs hW hC hln hl
  · have e : a = (m : Int) := by rw [mag_pos h] at hm; exact hm
    have hs2 : sgnL a (addL (qL m W zs) ((nats C).take l)) = addL (qL m W zs) ((nats C).take l) := if_neg h
    rw [hs2, e]
    exact refSplit_pos A n c m W l zs C w hA hn (by omega) hok hs hW hC hln hl
theorem sgnL_len (a : Int) (P : List Int) : (sgnL a P).length = P.length := by
  unfold sgnL; split
  · rw [List.length_map]
  · rfl
set_option maxRecDepth 100000 in
set_option maxHeartbeats 8000000 in
theorem walkDivGood (a : Int) (m W : Nat) (A : Option Addr) (n c : Nat) (zs : List Int) (w : World) (hH : Has w A n c (zs.map (Value.int .i64))) (hI : Ints w A n zs) (hn : n ≤ 64) (hP : Pows w) (hz : 0 < w.heap.size) (ha : okA a = true) (hm : mag a = (m : Int)) (hok : zs.all okU = true) (hs : zs.sum = (W : Int)) (hW : 0 < W) :
    Calls Tryd.prog 3 #[.int .i64 a, .slice A n c] w fun e w' => e = .returned (.bool true) ∧ Below w.heap.size w w' := by
  obtain ⟨i0, hi0, hz0, hz1, hz2⟩ := info_parts intInfo
  have hb0 : Below w.heap.size w (w.alloc (.cells #[] 3)) := (Below.refl _ _).alloc (Nat.le_refl _) _
  have HH := Lib.hid (hH.below hb0); clear hH
  have HI := Lib.hid hI; clear hI
  have HP := Lib.hid hP; clear hP
  have HOK := Lib.hid hok; have HS := Lib.hid hs; have HA := Lib.hid ha; have HM := Lib.hid hm
  have hs1 : ¬ (200 : Int) < n := by omega
  clear hok hs ha hm
  go_enter Tryd.func3, Tryd.ntmps3
  go_wp2_with (first
    | (at_builtin; refine wpList_append_has rfl (.tmp 15) (.tmp 16) 22 rfl w.heap.size 3 i0 (.int .i64 0) 8 Tryd.underlying22 hi0 hz0 hz1 hz2 rfl _ 0 [] rfl (own_lit _ _) A n c _ rfl HH.out (by unfold maxLen; omega) (by omega) (by simp) ?_; intro v1 w1 hown1 hg1; have hb1 : Below w.heap.size w w1 := (hb0.grown hg1 (by simp) (fun g hg' => by cases hg'; exact Nat.le_refl _)); obtain ⟨A1, c1, rfl, hI1⟩ := ints_own2 HI.out.2.1 HI.out.1 (by simpa using hown1); have HI1 := Lib.hid hI1; clear hg1 hown1 hI1)
    | (go_at_call 6; (with_reducible refine (split_any a A1 n c1 m W zs _ HI1.out hn HA.out HM.out HOK.out HS.out hW).mono ?_); rintro e w2 ⟨C, l, rfl, h1, hln, hl, h4, h5⟩; have hbb := hb1.trans (h5.mono hb1.size); have HI2 := Lib.hid (HI.out.below hbb); have HSP := Lib.hid h1; have HL := Lib.hid hl; have HC2 := Lib.hid h4; clear h1 hl h4 h5))
  with_reducible refine (refSplit_any a A n c m W l zs C _ HI2.out hn HA.out HM.out HOK.out HS.out hW HSP.out hln HL.out).mono ?_
  rintro e w3 ⟨g3, d3, rfl, hown3, hb3⟩
  have hll : (sgnL a (addL (qL m W zs) ((nats C).take l))).length = n := by rw [sgnL_len, addL_length]; unfold qL; rw [List.length_map]; exact HI.out.1
  obtain ⟨B1, d1', eB, hB⟩ := own_cells hll HC2.out
  obtain ⟨B3, c3, eC, hC3⟩ := own_cells hll hown3
  have HB := Lib.hid (cells_below hB hb3)
  have HC3 := Lib.hid (cells_below hC3 (Below.refl _ _))
  cases eB
  cases eC
  have HB3 := Lib.hid (hbb.trans (hb3.mono hbb.size))
  clear hown3 hll hB hC3
  go_wp2_with (first
    | (go_at_call 8; (with_reducible refine (same_ints _ _ n _ _ _ _ HB.out HC3.out (by omega)).mono ?_); rintro e w4 ⟨rfl, hb4⟩; have HBE := Lib.hid (HB3.out.trans (hb4.mono HB3.out.size)); have HPE := Lib.hid (HP.out.below hz HBE.out); have hzE := Nat.lt_of_lt_of_le hz HBE.out.size)
    | (go_at_call 5; (with_reducible refine (awake_any _ HPE.out hzE).mono ?_); rintro e w5 ⟨rfl, hb5⟩))
  go_ret
  exact ⟨rfl, HBE.out.trans (hb5.mono HBE.out.size)⟩
set_option maxRecDepth 100000 in
set_option maxHeartbeats 8000000 in
theorem walkDivBad (a : Int) (A : Option Addr) (n c : Nat) (zs : List Int) (w : World) (hH : Has w A n c (zs.map (Value.int .i64))) (hI : Ints w A n zs) (hn : n ≤ 200) (hP : Pows w) (hz : 0 < w.heap.size) (E : Int) (hE : twE a zs = E) (h0 : E ≠ 0) :
    Calls Tryd.prog 3 #[.int .i64 a, .slice A n c] w fun e w' => e = .returned (.bool true) ∧ Below w.heap.size w w' := by
  obtain ⟨i0, hi0, hz0, hz1, hz2⟩ := info_parts intInfo
  have hb0 : Below w.heap.size w (w.alloc (.cells #[] 3)) := (Below.refl _ _).alloc (Nat.le_refl _) _
  have HH := Lib.hid (hH.below hb0); clear hH
  have HI := Lib.hid hI; clear hI
  have HP := Lib.hid hP; clear hP
  have HE := Lib.hid hE; clear hE
  have hs1 : ¬ (200 : Int) < n := by omega
  have HE0 := Lib.hid h0; clear h0
  go_enter Tryd.func3, Tryd.ntmps3
  go_wp2_with (first
    | (at_builtin; refine wpList_append_has rfl (.tmp 15) (.tmp 16) 22 rfl w.heap.size 3 i0 (.int .i64 0) 8 Tryd.underlying22 hi0 hz0 hz1 hz2 rfl _ 0 [] rfl (own_lit _ _) A n c _ rfl HH.out (by unfold maxLen; omega) (by omega) (by simp) ?_; intro v1 w1 hown1 hg1; have hb1 : Below w.heap.size w w1 := (hb0.grown hg1 (by simp) (fun g hg' => by cases hg'; exact Nat.le_refl _)); obtain ⟨A1, c1, rfl, hI1⟩ := ints_own2 HI.out.2.1 HI.out.1 (by simpa using hown1); have HI1 := Lib.hid hI1; clear hg1 hown1 hI1)
    | (go_at_call 6; (with_reducible refine (split_bad a A1 n c1 zs _ HI1.out (by omega) E HE.out HE0.out).mono ?_); rintro e w2 ⟨rfl, rfl⟩; have HI2 := Lib.hid (HI.out.below hb1))
    | (go_at_call 7; (with_reducible refine (refSplit_bad a A n c zs _ HI2.out (by omega) E HE.out HE0.out).mono ?_); rintro e w3 ⟨rfl, rfl⟩)
    | (go_at_call 8; (with_reducible refine (same_ints none none 0 0 0 [] _ (fun k hk => absurd hk (by omega)) (fun k hk => absurd hk (by omega)) (by omega)).mono ?_); rintro e w4 ⟨rfl, hb4⟩; have HBE := Lib.hid (hb1.trans (hb4.mono hb1.size)); have HPE := Lib.hid (HP.out.below hz HBE.out); have hzE := Nat.lt_of_lt_of_le hz HBE.out.size)
    | (go_at_call 5; (with_reducible refine (awake_any _ HPE.out hzE).mono ?_); rintro e w5 ⟨rfl, hb5⟩))
  go_ret
  exact ⟨rfl, HBE.out.trans (hb5.mono HBE.out.size)⟩
set_option maxHeartbeats 1000000 in
theorem walkAmountDivides (a : Int) (A : Option Addr) (n c : Nat) (zs : List Int) (w : World) (wa : (Lit.int .i64 a).wf = true) (hr : IsRow .i64 w A n c zs) (_hn : n * 8 ≤ 140737488351232) (hP : Pows w) (hz : 0 < w.heap.size) :
    Calls Tryd.prog 3 #[.int .i64 a, .slice A n c] w fun e w' => e = .returned (.bool true) ∧ Below w.heap.size w w' := by
  by_cases h : n ≤ 200
  · by_cases h0 : twE a (zs.take n) = 0
    · obtain ⟨h1, h2, h3, h4⟩ := tw_zero h0
      have hI := ints_row2 hr
      have hzl : (zs.take n).length = n := hI.1
      have hnn : ∀ x ∈ zs.take n, 0 ≤ x := fun x hx => (okU_iff.1 (List.all_eq_true.1 h3 x hx)).1
      have hs0 := sum_ge_of hnn
      obtain ⟨W, hW⟩ : ∃ W : Nat, (zs.take n).sum = (W : Int) := ⟨(zs.take n).sum.toNat, by omega⟩
      obtain ⟨m, hm⟩ : ∃ m : Nat, mag a = (m : Int) := ⟨(mag a).toNat, by unfold mag; split <;> omega⟩
      exact walkDivGood a m W A n c _ w (has_row hr) hI (by omega) hP hz h2 hm h3 hW (by omega)
    · exact walkDivBad a A n c _ w (has_row hr) (ints_row2 hr) h hP hz _ rfl h0
  · have hs1 : (200 : Int) < n := by omega
    clear hr h
    go_enter Tryd.func3, Tryd.ntmps3
    go_wp2_with (go_at_call 5; refine (awake_any _ hP hz).mono ?_; rintro e w4 ⟨rfl, hb4⟩)
    go_ret
    exact ⟨rfl, hb4⟩
end Go.Proofs.YtopngdjhnljmfaaDoor
