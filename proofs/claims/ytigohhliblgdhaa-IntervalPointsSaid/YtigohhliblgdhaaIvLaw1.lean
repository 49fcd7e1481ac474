/- Walks: the laws on points, on covers, on differences. -/
import Derived.Test.YtigohhliblgdhaaIvAwk
import Derived.Test.YtigohhliblgdhaaIvArg
namespace Go.Proofs.Ytigohhliblgdhaa
open Go.RowKit

set_option maxHeartbeats 8000000 in
theorem walkIntervalPoints (a b c d t : Int) (w : World) (_ : (Lit.int .i64 a).wf = true) (_ : (Lit.int .i64 b).wf = true) (_ : (Lit.int .i64 c).wf = true) (_ : (Lit.int .i64 d).wf = true) (_ : (Lit.int .i64 t).wf = true) :
    Calls Try.prog 3 #[.agg #[.int .i64 a, .int .i64 b], .agg #[.int .i64 c, .int .i64 d], .int .i64 t] w fun e w' => e = .returned (.bool true) ∧ Below w.heap.size w w' := by
  obtain ⟨x, y, ok, h1, h2⟩ : ∃ (x y : Int) (ok : Bool), (∀ w, Calls Try.prog 9 #[.agg #[.int .i64 a, .int .i64 b], .agg #[.int .i64 c, .int .i64 d]] w fun e w' => e = .returned (.tuple #[.agg #[.int .i64 x, .int .i64 y], .bool ok]) ∧ Below w.heap.size w w') ∧
      (∀ w, Calls Try.prog 10 #[.agg #[.int .i64 a, .int .i64 b], .agg #[.int .i64 c, .int .i64 d]] w fun e w' => e = .returned (.tuple #[.agg #[.int .i64 x, .int .i64 y], .bool ok]) ∧ Below w.heap.size w w') :=
    ⟨_, _, _, fun w => intersect_any a b c d w, fun w => refIntersect_any a b c d w⟩
  have H1 := Lib.hid h1; have H2 := Lib.hid h2
  obtain ⟨v, hv⟩ : ∃ v, vl (a, b) = v := ⟨_, rfl⟩
  obtain ⟨ct, hct⟩ : ∃ v, ctn (a, b) t = v := ⟨_, rfl⟩
  have E1 := Lib.hid (fun w => valid_is a b v hv w)
  have E2 := Lib.hid (fun w => refValid_is a b v hv w)
  have E3 := Lib.hid (fun w => contains_is a b t ct hct w)
  have E4 := Lib.hid (fun w => refContains_is a b t ct hct w)
  have E5 := Lib.hid awake_any
  have HP := Lib.hid ((Blk.new w 23 #[.int .i64 a, .int .i64 b]).alloc (.cells #[.int .i64 c, .int .i64 d] 23))
  have HQ : Hid (Blk ((w.alloc (.cells #[.int .i64 a, .int .i64 b] 23)).alloc (.cells #[.int .i64 c, .int .i64 d] 23)) (w.heap.size + 1) 23 #[.int .i64 c, .int .i64 d]) := Lib.hid (by
    have := Blk.new (w.alloc (.cells #[.int .i64 a, .int .i64 b] 23)) 23 #[.int .i64 c, .int .i64 d]
    simpa using this)
  have HW := Lib.hid (((Below.refl _ w).alloc (Nat.le_refl _) (.cells #[.int .i64 a, .int .i64 b] 23)).alloc (by simp) (.cells #[.int .i64 c, .int .i64 d] 23))
  have heq := eqPeriod_same x y
  have hgd := guardPeriod
  clear h1 h2 hv hct
  go_enter Try.func3, Try.ntmps3
  go_wp2_with fail
  refine (H1.out _).mono ?_
  rintro e w1 ⟨rfl, hb1⟩
  have hw1 := HW.out.trans (hb1.mono (by simp; omega))
  have hp1 := HP.out.below hb1 HP.out.lt
  have hq1 := HQ.out.below hb1 HQ.out.lt
  have HP1 := Lib.hid hp1; have HQ1 := Lib.hid hq1
  obtain ⟨p0, p1⟩ := hp1.two
  obtain ⟨q0, q1⟩ := hq1.two
  have hl1 := hp1.lt
  have hl2 := hq1.lt
  have hs1 := hw1.size
  have HR1 := Lib.hid (Blk.new w1 23 #[.int .i64 x, .int .i64 y])
  clear hb1 hp1 hq1
  go_wp2_with fail
  refine (H2.out _).mono ?_
  rintro e w2 ⟨rfl, hb2⟩
  have hw2 := (hw1.alloc hs1 _).trans (hb2.mono (by simp; omega))
  have hp2 := (HP1.out.alloc _).below hb2 (HP1.out.alloc _).lt
  have hr2 := HR1.out.below hb2 HR1.out.lt
  have hs2 := hw2.size
  have hl3 := hp2.lt
  have hl4 := hr2.lt
  obtain ⟨r0, r1⟩ := hr2.two
  have hp3 := hp2.alloc (.cells #[.int .i64 x, .int .i64 y] 23)
  have hr3 := hr2.alloc (.cells #[.int .i64 x, .int .i64 y] 23)
  have hn3 := Blk.new w2 23 #[.int .i64 x, .int .i64 y]
  have HW3 := Lib.hid (hw2.alloc hs2 (.cells #[.int .i64 x, .int .i64 y] 23))
  clear p0 p1 q0 q1 hl1 hl2 hb2 hw1 hs1
  obtain ⟨p0, p1⟩ := hp3.two
  obtain ⟨s0, s1⟩ := hr3.two
  obtain ⟨n0, n1⟩ := hn3.two
  have k0 := cell_regrown p0
  have k1 := cell_regrown p1
  have k2 := cell_regrown s0
  have k3 := cell_regrown s1
  have k4 := cell_regrown n0
  have k5 := cell_regrown n1
  clear hp2 hr2 hp3 hr3 hn3 p0 p1 s0 s1 n0 n1
  go_wp2
  refine wp_region_quiet_below (by kernel_rfl) (by kernel_rfl) ?_
  iterate 28 (go_big_quiet_step (first | (with_reducible exact Calls.regrown_of (E1.out _)) | (with_reducible exact Calls.regrown_of (E2.out _)) | (with_reducible exact Calls.regrown_of (E3.out _)) | (with_reducible exact Calls.regrown_of (E4.out _)) | (with_reducible exact Calls.regrown_of (E5.out _))))
  refine wpQuiet_nil ?_
  intro _ hw'
  obtain ⟨⟨dq, osq⟩, hw''⟩ := hw'
  subst hw''
  go_wp2
  go_ret
  exact ⟨rfl, HW3.out.trans ((below_regrown _ dq osq).mono HW3.out.size)⟩
set_option maxHeartbeats 4000000 in
theorem walkIntervalCovers (A : Option Addr) (n c : Nat) (l : List Pd) (w : World) (hl : l.length = n) (hc : n ≤ c) (hA : PR w A l) :
    Calls Try.prog 5 #[.slice A n c] w fun e w' => e = .returned (.bool true) ∧ Below w.heap.size w w' := by
  have HF := Lib.hid (few_any A none n 0 c 0 w)
  by_cases h40 : n ≤ 40
  · have HF2 := HF.out
    rw [decide_eq_true h40] at HF2
    have HF := Lib.hid HF2
    have HA := Lib.hid hA; have HL := Lib.hid hl
    have hV := cmb_length fCover l []
    rw [hl] at hV
    have HC := Lib.hid (cover_any A n c l w hA hl hc (by omega))
    have HT := fun W h => total_any A n c l W h hl hc (by omega)
    have HR := fun W h => refCover_any A n c l W h hl hc (by omega)
    have HT2 := fun W h => refTotal_any A n c l W h hl hc (by omega)
    generalize cmb fCover l [] = V at *
    have HT := Lib.hid HT; have HR := Lib.hid HR; have HT2 := Lib.hid HT2
    generalize len V = tv at *
    simp only [List.length_nil, Nat.mul_zero, Nat.add_zero] at hV
    clear hA hl HF2
    go_enter Try.func5, Try.ntmps5
    go_wp2_with (first
      | (go_at_call 19; (with_reducible refine HF.out.mono ?_); rintro e w0 ⟨rfl, rfl⟩)
      | (go_at_call 20; (with_reducible refine HC.out.mono ?_); rintro e w1 ⟨R1, r1, rfl, hr1, hR1, hb1⟩; have HR1 := Lib.hid hR1; have hs1 := hb1.size; clear hR1)
      | (go_at_call 21; (with_reducible refine (HR.out _ (HA.out.below hb1)).mono ?_); rintro e w2 ⟨R2, r2, rfl, hr2, hR2, hb2⟩; have HR2 := Lib.hid hR2; have hb2' := hb1.trans (hb2.mono hs1); have hs2 := hb2'.size; have HR12 := Lib.hid (HR1.out.below hb2); clear hR2 hb2)
      | (go_at_call 17; (with_reducible refine (same_yes _ _ _ _ _ V _ HR12.out HR2.out rfl (by omega) hr1 hr2).mono ?_); rintro e w3 ⟨rfl, hb3⟩; have hb3' := hb2'.trans (hb3.mono hs2); have hs3 := hb3'.size; clear hb3)
      | (go_at_call 22; (with_reducible refine (HT.out _ (HA.out.below hb3')).mono ?_); rintro e w4 ⟨rfl, hb4⟩; have hb4' := hb3'.trans (hb4.mono hs3); have hs4 := hb4'.size; clear hb4)
      | (go_at_call 23; (with_reducible refine (HT2.out _ (HA.out.below hb4')).mono ?_); rintro e w5 ⟨rfl, hb5⟩; have hb5' := hb4'.trans (hb5.mono hs4); have hs5 := hb5'.size; clear hb5)
      | (go_at_call 15; (with_reducible refine (awake_any _).mono ?_); rintro e w6 ⟨rfl, hb6⟩))
    go_ret
    exact ⟨rfl, hb5'.trans (hb6.mono hs5)⟩
  · have HF2 := HF.out
    rw [decide_eq_false h40] at HF2
    have HF := Lib.hid HF2
    clear HF2
    go_enter Try.func5, Try.ntmps5
    go_wp2_with (first
      | (go_at_call 19; (with_reducible refine HF.out.mono ?_); rintro e w0 ⟨rfl, rfl⟩)
      | (go_at_call 15; (with_reducible refine (awake_any _).mono ?_); rintro e w6 ⟨rfl, hb6⟩))
    go_ret
    exact ⟨rfl, hb6⟩
theorem few_case (n m : Nat) : (n ≤ 40 ∧ m ≤ 40 ∧ (decide (n ≤ 40) && decide (m ≤ 40)) = true) ∨ (decide (n ≤ 40) && decide (m ≤ 40)) = false := by
  by_cases h1 : n ≤ 40 <;> by_cases h2 : m ≤ 40 <;> simp [h1, h2]
set_option maxHeartbeats 4000000 in
theorem walkIntervalMinus (A : Option Addr) (n c : Nat) (la : List Pd) (B : Option Addr) (m c' : Nat) (lb : List Pd) (w : World) (hl : la.length = n) (hc : n ≤ c) (hA : PR w A la) (hm : lb.length = m) (hc' : m ≤ c') (hB : PR w B lb) :
    Calls Try.prog 6 #[.slice A n c, .slice B m c'] w fun e w' => e = .returned (.bool true) ∧ Below w.heap.size w w' := by
  have HF := Lib.hid (few_any A B n m c c' w)
  rcases few_case n m with ⟨h1, h2, h⟩ | h
  · have HF2 := HF.out
    rw [h] at HF2
    have HF := Lib.hid HF2
    have HA := Lib.hid hA; have HB := Lib.hid hB
    have hV := cmb_length fMinus la lb
    have hU := cmb_length fCommon la lb
    rw [hl, hm] at hV hU
    have H1 := Lib.hid (minus_any A B n m c c' la lb w hA hB hl hm hc hc' (by omega))
    have H2 := Lib.hid (fun W h h' => refMinus_any A B n m c c' la lb W h h' hl hm hc hc' (by omega))
    have H3 := Lib.hid (fun W h h' => common_any A B n m c c' la lb W h h' hl hm hc hc' (by omega))
    have H4 := Lib.hid (fun W h h' => refCommon_any A B n m c c' la lb W h h' hl hm hc hc' (by omega))
    generalize cmb fMinus la lb = V at *
    generalize cmb fCommon la lb = U at *
    clear hA hB hl hm HF2 h
    go_enter Try.func6, Try.ntmps6
    go_wp2_with (first
      | (go_at_call 19; (with_reducible refine HF.out.mono ?_); rintro e w0 ⟨rfl, rfl⟩)
      | (go_at_call 24; (with_reducible refine H1.out.mono ?_); rintro e w1 ⟨R1, r1, rfl, hr1, hR1, hb1⟩; have HR1 := Lib.hid hR1; have hs1 := hb1.size; clear hR1)
      | (go_at_call 25; (with_reducible refine (H2.out _ (HA.out.below hb1) (HB.out.below hb1)).mono ?_); rintro e w2 ⟨R2, r2, rfl, hr2, hR2, hb2⟩; have HR2 := Lib.hid hR2; have hb2' := hb1.trans (hb2.mono hs1); have hs2 := hb2'.size; have HR12 := Lib.hid (HR1.out.below hb2); clear hR2 hb2)
      | (go_at_call 17; (with_reducible refine (same_yes _ _ _ _ _ V _ HR12.out HR2.out rfl (by omega) hr1 hr2).mono ?_); rintro e w3 ⟨rfl, hb3⟩; have hb3' := hb2'.trans (hb3.mono hs2); have hs3 := hb3'.size; clear hb3)
      | (go_at_call 26; (with_reducible refine (H3.out _ (HA.out.below hb3') (HB.out.below hb3')).mono ?_); rintro e w4 ⟨R4, r4, rfl, hr4, hR4, hb4⟩; have HR4 := Lib.hid hR4; have hb4' := hb3'.trans (hb4.mono hs3); have hs4 := hb4'.size; clear hR4 hb4)
      | (go_at_call 27; (with_reducible refine (H4.out _ (HA.out.below hb4') (HB.out.below hb4')).mono ?_); rintro e w5 ⟨R5, r5, rfl, hr5, hR5, hb5⟩; have HR5 := Lib.hid hR5; have hb5' := hb4'.trans (hb5.mono hs4); have hs5 := hb5'.size; have HR45 := Lib.hid (HR4.out.below hb5); clear hR5 hb5)
      | (go_at_call 17; (with_reducible refine (same_yes _ _ _ _ _ U _ HR45.out HR5.out rfl (by omega) hr4 hr5).mono ?_); rintro e w6 ⟨rfl, hb6⟩; have hb6' := hb5'.trans (hb6.mono hs5); have hs6 := hb6'.size; clear hb6)
      | (go_at_call 15; (with_reducible refine (awake_any _).mono ?_); rintro e w7 ⟨rfl, hb7⟩))
    go_ret
    exact ⟨rfl, hb6'.trans (hb7.mono hs6)⟩
  · have HF2 := HF.out
    rw [h] at HF2
    have HF := Lib.hid HF2
    clear HF2 h
    go_enter Try.func6, Try.ntmps6
    go_wp2_with (first
      | (go_at_call 19; (with_reducible refine HF.out.mono ?_); rintro e w0 ⟨rfl, rfl⟩)
      | (go_at_call 15; (with_reducible refine (awake_any _).mono ?_); rintro e w6 ⟨rfl, hb6⟩))
    go_ret
    exact ⟨rfl, hb6⟩
end Go.Proofs.Ytigohhliblgdhaa
