/- Walk: the law on cuts. -/
import Derived.Test.YtpbohnlfiaigjaaBdLaw4
namespace Go.Proofs.Ytpbohnlfiaigjaa
open Go.RowKit Go.Sort

theorem refContains_v (a b t : Int) (v : Bool) (h : ctn (a, b) t = v) (w : World) : Calls Try.prog 26 #[.agg #[.int .i64 a, .int .i64 b], .int .i64 t] w fun e w' => e = .returned (.bool v) ∧ Below w.heap.size w w' := by
  subst h; exact refContains_any a b t w
/-- What is true of each piece. -/
theorem cut_piece {l : List Bd} {hol : List Int} {a b : Int} (h1 : ckB l = 0) (h2 : vl (a, b) = true) (h3 : b - a ≤ 2678400) {k : Nat} {m : ByteArray} {x y : Int} (hk : k < (cutW l hol a b).length) (hp : (cutW l hol a b).getD k pc0 = (m, x, y)) :
    vl (x, y) = true ∧ 0 ≤ x ∧ x < y ∧ y ≤ 12622780800 ∧ atW l hol x = m ∧ atW l hol (y - 1) = m ∧ (∀ t, ctn (x, y) t = true → atW l hol t = m) ∧
    (0 < k → ((cutW l hol a b).getD (k - 1) pc0).2.2 = x ∧ ((cutW l hol a b).getD (k - 1) pc0).1 ≠ m) := by
  obtain ⟨v0, v1, v2⟩ := vl_iff.1 h2
  simp only at v0 v1 v2
  rw [cutW_yes h1 h2 h3] at hk hp ⊢
  obtain ⟨q1, q2, q3, q4, q5⟩ := (ctP_all (atV l hol) a b v1).1 k hk
  rw [hp] at q1 q2 q3 q4 q5
  simp only at q1 q2 q3 q4 q5
  have hat : ∀ t, x ≤ t → t < y → atW l hol t = m := fun t g1 g2 => by unfold atW; rw [if_pos ⟨h1, by omega, by omega⟩]; exact q4 t g1 g2
  have hv : vl (x, y) = true := vl_iff.2 ⟨by simp only; omega, q2, by simp only; omega⟩
  exact ⟨hv, by omega, q2, by omega, hat x (Int.le_refl _) q2, hat (y - 1) (by omega) (by omega), fun t ht => hat t (ctn_iff.1 ht).2.1 (ctn_iff.1 ht).2.2, q5⟩
theorem cut_ends {l : List Bd} {hol : List Int} {a b : Int} (h1 : ckB l = 0) (h2 : vl (a, b) = true) (h3 : b - a ≤ 2678400) : 0 < (cutW l hol a b).length ∧ ((cutW l hol a b).getD 0 pc0).2.1 = a ∧ ((cutW l hol a b).getD ((cutW l hol a b).length - 1) pc0).2.2 = b := by
  obtain ⟨v0, v1, v2⟩ := vl_iff.1 h2
  simp only at v0 v1 v2
  rw [cutW_yes h1 h2 h3]
  exact (ctP_all (atV l hol) a b v1).2
set_option maxRecDepth 100000 in
set_option maxHeartbeats 16000000 in
theorem walkBandsCut (A : Option Addr) (n c : Nat) (l : List Bd) (B : Option Addr) (m c' : Nat) (hol : List Int) (a b t : Int) (w : World) (hA : BdR w A l) (hn : l.length = n) (hc : n ≤ c) (hm : c ≤ maxLen) (hz : ∀ b ∈ l, b.2.length ≤ 6000000000000) (hB : IR w B hol) (hh : hol.length = m) (hc' : m ≤ c') (hm' : c' ≤ maxLen) :
    Calls Try.prog 6 #[.agg #[.slice A n c, .slice B m c'], .agg #[.int .i64 a, .int .i64 b], .int .i64 t] w fun e w' => e = .returned (.bool true) ∧ Below w.heap.size w w' := by
  obtain ⟨ev, hev⟩ : ∃ v, ckB l = v := ⟨_, rfl⟩
  have HLT := Lib.hid (fun W h => light_any A B n c m c' l W h hn hc hm (by omega) hz)
  have HCK := Lib.hid (fun W h => check_is A n c l ev hev W h hn hc hm)
  have HC1 := Lib.hid (fun hq W h1 h2 => cut_w A B n c m c' l hol a b W h1 hn hc hm h2 hh hc' hm' hq)
  have HAT := Lib.hid (fun t W h1 h2 => at_any A B n c m c' l hol t W h1 hn hc hm h2 hh hc' hm')
  have HPC := Lib.hid (fun h1 h2 h3 k mm x y hk hp => cut_piece (l := l) (hol := hol) (a := a) (b := b) h1 h2 h3 (k := k) (m := mm) (x := x) (y := y) hk hp)
  have HEN := Lib.hid (fun h1 h2 h3 => cut_ends (l := l) (hol := hol) (a := a) (b := b) h1 h2 h3)
  have HNO := Lib.hid (fun h => cutW_no (l := l) (hol := hol) (a := a) (b := b) h)
  have hPl := cutW_length l hol a b
  obtain ⟨P, hP⟩ : ∃ P, cutW l hol a b = P := ⟨_, rfl⟩
  rw [hP] at HC1 HPC HEN HNO hPl
  obtain ⟨nP, hnP⟩ : ∃ q, P.length = q := ⟨_, rfl⟩
  rw [hnP] at hPl
  have HNP := Lib.hid hnP
  have HEV := Lib.hid hev
  have HA := Lib.hid hA; have HB := Lib.hid hB; have HN := Lib.hid hn
  have HBX := Lib.hid (Bxs.new w (.slice A n c) (.slice B m c') a b)
  have hb0 : Below w.heap.size w ((w.alloc (.cells #[.slice A n c, .slice B m c'] 32)).alloc (.cells #[.int .i64 a, .int .i64 b] 37)) := ((Below.refl _ w).alloc (Nat.le_refl _) _).alloc (by simp) _
  have hs0 := hb0.size
  obtain ⟨x0, x1, x2, x3⟩ := HBX.out.cells
  clear hA hB hn hm hh hz hP hev hm' hnP
  go_enter Try.func6, Try.ntmps6
  go_wp2_with fail
  refine (HLT.out _ (HA.out.below hb0)).mono ?_
  rintro e w1 ⟨⟨lv, rfl, hlv⟩, hb1⟩
  have hbx := HBX.out.below hb1
  clear x0 x1 x2 x3
  obtain ⟨x0, x1, x2, x3⟩ := hbx.cells
  have hb2 := hb0.trans (hb1.mono hs0)
  have hs2 := hb2.size
  have HLV := Lib.hid hlv
  have HBX1 := Lib.hid hbx
  clear hb0 hs0 hb1 hbx HLT HBX hlv
  cases lv
  · go_wp2_with (go_at_call 14; (with_reducible refine (awake_any _).mono ?_); rintro e w6 ⟨rfl, hb6⟩; have hb7 := hb2.trans (hb6.mono hs2))
    go_ret
    exact ⟨rfl, hb7⟩
  · by_cases hz0 : ev = 0
    · subst hz0
      have HQ : Hid (ckB l = 0 → nsl l ≤ 100) := Lib.hid (fun h => by have := ((HLV.out rfl).2 h).1; omega)
      clear HLV
      cases hv : vl (a, b)
      · have HVA := Lib.hid (refValid_is a b _ hv)
        obtain rfl : P = [] := HNO.out (.inr (.inl hv))
        clear hv
        go_wp2_with (first | (go_at_call 15; (with_reducible refine (HCK.out _ (HA.out.below hb2)).mono ?_); rintro e w3 ⟨rfl, hb3⟩; have hb4 := hb2.trans (hb3.mono hs2); have hs4 := hb4.size; have HX3 := Lib.hid (HBX1.out.below hb3); clear x0 x1 x2 x3; obtain ⟨a0, a1, a2, a3⟩ := HX3.out.cells) | (go_at_call 21; (with_reducible refine (HC1.out HQ.out _ (HA.out.below hb4) (HB.out.below hb4)).mono ?_); rintro e w5 ⟨R, r, rfl, hr, hrm, hPR, hb5⟩; have HP := Lib.hid hPR; have hb6 := hb4.trans (hb5.mono hs4); have hs6 := hb6.size; have HX5 := Lib.hid (HX3.out.below hb5); clear a0 a1 a2 a3 hPR; obtain ⟨c0, c1, c2, c3⟩ := HX5.out.cells) | (go_at_call 25; (with_reducible refine (HVA.out _).mono ?_); rintro e w7 ⟨rfl, hb7⟩; have hb8 := hb6.trans (hb7.mono hs6); have hs8 := hb8.size; have HX7 := Lib.hid (HX5.out.below hb7); have HP7 := Lib.hid (HP.out.below hb7); clear c0 c1 c2 c3; obtain ⟨x0, x1, x2, x3⟩ := HX7.out.cells) | (go_at_call 14; (with_reducible refine (awake_any _).mono ?_); rintro e w9 ⟨rfl, hb9⟩; have hb10 := hb8.trans (hb9.mono hs8)))
        go_ret
        exact ⟨rfl, hb10⟩
      · have HVA := Lib.hid (refValid_is a b _ hv)
        obtain ⟨v0, v1, v2⟩ := vl_iff.1 hv
        simp only at v0 v1 v2
        by_cases hs : b - a ≤ 2678400
        · have d1 : decide (2678400 < b - a) = false := decide_eq_false (by omega)
          have HPQ := Lib.hid (HPC.out HEV.out hv hs)
          obtain ⟨y0, y1, y2⟩ := HEN.out HEV.out hv hs
          rw [HNP.out] at y0 y2
          clear hv HNO HEN HPC
          go_wp2_with (first | (go_at_call 15; (with_reducible refine (HCK.out _ (HA.out.below hb2)).mono ?_); rintro e w3 ⟨rfl, hb3⟩; have hb4 := hb2.trans (hb3.mono hs2); have hs4 := hb4.size; have HX3 := Lib.hid (HBX1.out.below hb3); clear x0 x1 x2 x3; obtain ⟨a0, a1, a2, a3⟩ := HX3.out.cells) | (go_at_call 21; (with_reducible refine (HC1.out HQ.out _ (HA.out.below hb4) (HB.out.below hb4)).mono ?_); rintro e w5 ⟨R, r, rfl, hr, hrm, hPR, hb5⟩; have HP := Lib.hid hPR; have hb6 := hb4.trans (hb5.mono hs4); have hs6 := hb6.size; have HX5 := Lib.hid (HX3.out.below hb5); clear a0 a1 a2 a3 hPR; obtain ⟨c0, c1, c2, c3⟩ := HX5.out.cells) | (go_at_call 25; (with_reducible refine (HVA.out _).mono ?_); rintro e w7 ⟨rfl, hb7⟩; have hb8 := hb6.trans (hb7.mono hs6); have hs8 := hb8.size; have HX7 := Lib.hid (HX5.out.below hb7); have HP7 := Lib.hid (HP.out.below hb7); clear c0 c1 c2 c3; obtain ⟨x0, x1, x2, x3⟩ := HX7.out.cells))
          rw [HNP.out] at hr ⊢
          unfold maxLen at hrm
          obtain ⟨N1, rfl⟩ : ∃ N1, nP = N1 + 1 := ⟨nP - 1, by omega⟩
          rw [Nat.add_sub_cancel] at y2
          obtain ⟨gp, op, rfl, hgl, _, p1, _⟩ := HP7.out 0 (by rw [HNP.out]; omega)
          obtain ⟨gp', op', hbe, _, _, _, p2⟩ := HP7.out N1 (by rw [HNP.out]; omega)
          obtain ⟨rfl, rfl⟩ : gp = gp' ∧ op = op' := by injection hbe with h; injection h with h1 h2; exact ⟨h1, h2⟩
          rw [y1] at p1
          rw [y2] at p2
          rw [Nat.zero_mul, Nat.add_zero] at p1
          have wrm : IntKind.i64.wrap (((N1 + 1 : Nat) : Int) - 1) = (N1 : Int) := by rw [show ((N1 + 1 : Nat) : Int) - 1 = (N1 : Int) by omega]; exact IntWalk.i64_in _ (by omega)
          have hmn : (N1 : Int) < ((N1 + 1 : Nat) : Int) := by omega
          have hne : (((N1 + 1 : Nat) : Int) == 0) = false := by simp; omega
          have hne2 : ((N1 : Int) + 1 == 0) = false := by simp; omega
          have hmn2 : (N1 : Int) < (N1 : Int) + 1 := by omega
          clear hbe
          go_wp2_with fail
          go_quiet (fail)
          go_wp2_with fail
          have hbQ := below_drewN hb8 nq
          have HXQ := Lib.hid (HX7.out.below (drewN_self w7 nq))
          have HPQ7 := Lib.hid (HP7.out.below (drewN_self w7 nq))
          have hsQ := hbQ.size
          have HB8 := Lib.hid hbQ
          generalize w7.drewN nq = w8 at *
          clear x0 x1 x2 x3 p1 p2 wrm hmn hne hb8 hs8 HX7 HP7 hb2 hs2 hb4 hs4 hb6 hs6 hb7 HX5 HX3 HP hb3 hb5 HVA y1 y2 d1
          go_loopw [8] (fun kv wr => ∃ k : Nat, kv = .int .i64 k ∧ k ≤ N1 + 1 ∧ Below w8.heap.size w8 wr) (fun kv _ => N1 + 1 - (intOf kv).toNat)
          case atStart => exact ⟨0, rfl, by omega, Below.refl _ _⟩
          case round =>
            obtain ⟨k, rfl, hk, hb⟩ := hrel
            have hsr := hb.size
            by_cases hlt : k < N1 + 1
            · have hkP : k < P.length := by rw [HNP.out]; exact hlt
              obtain ⟨⟨mm, x, y⟩, hp⟩ : ∃ p, P.getD k pc0 = p := ⟨_, rfl⟩
              obtain ⟨u1, u2, u3, u4, u5, u6, u7, u8⟩ := HPQ.out k mm x y hkP hp
              have hlt' : (k : Int) < (N1 : Int) + 1 := by omega
              obtain ⟨gp', op', hbe, hgl', q0, q1, q2⟩ := HPQ7.out k hkP
              obtain ⟨rfl, rfl⟩ : gp = gp' ∧ op = op' := by injection hbe with h; injection h with h1 h2; exact ⟨h1, h2⟩
              rw [hp] at q0 q1 q2
              simp only at q0 q1 q2
              have e0 := (hb.cell (p := ⟨gp, op + k * 3, none⟩) hgl').trans q0
              have e1 := (hb.cell (p := ⟨gp, op + k * 3 + 1, none⟩) hgl').trans q1
              have e2 := (hb.cell (p := ⟨gp, op + k * 3 + 2, none⟩) hgl').trans q2
              have hbn : Below wr.heap.size wr (wr.alloc (.cells #[.int .i64 x, .int .i64 y] 37)) := (Below.refl _ wr).alloc (Nat.le_refl _) _
              have hgr : gp < wr.heap.size := Nat.lt_of_lt_of_le hgl' hsr
              have f0 := (hbn.cell (p := ⟨gp, op + k * 3, none⟩) hgr).trans e0
              have HQB := Lib.hid (Blk.new wr 37 #[.int .i64 x, .int .i64 y])
              obtain ⟨f3, f4⟩ := HQB.out.two
              have HVQ := Lib.hid (refValid_is x y true u1)
              have HPR := Lib.hid (hb.trans (hbn.mono hsr))
              have hprev : (¬ 0 < k ∧ decide (0 < (k : Int)) = false) ∨ (∃ k' : Nat, (0 < k ∧ decide (0 < (k : Int)) = true ∧ (k : Int) - 1 = (k' : Int) ∧ (k' : Int) < (N1 : Int) + 1) ∧ ∃ pm : ByteArray, (pm.toList == mm.toList) = false ∧ (mm.toList == pm.toList) = false ∧ (wr.alloc (.cells #[.int .i64 x, .int .i64 y] 37)).cell? ⟨gp, op + k' * 3, none⟩ = some (.string pm) ∧ (wr.alloc (.cells #[.int .i64 x, .int .i64 y] 37)).cell? ⟨gp, op + k' * 3 + 2, none⟩ = some (.int .i64 x)) := by
                rcases Nat.eq_zero_or_pos k with h | h
                · exact .inl ⟨by omega, decide_eq_false (by omega)⟩
                · obtain ⟨k', rfl⟩ : ∃ k', k = k' + 1 := ⟨k - 1, by omega⟩
                  obtain ⟨gp', op', hbe, hgl', r0, r1, r2⟩ := HPQ7.out k' (by omega)
                  obtain ⟨rfl, rfl⟩ : gp = gp' ∧ op = op' := by injection hbe with h; injection h with h1 h2; exact ⟨h1, h2⟩
                  have h8 := u8 h
                  rw [Nat.add_sub_cancel] at h8
                  rw [h8.1] at r2
                  refine .inr ⟨k', ⟨h, decide_eq_true (by omega), by omega, by omega⟩, _, sEq_is (decide_eq_false h8.2), sEq_is (decide_eq_false (fun h => h8.2 h.symm)), (hbn.cell (p := ⟨gp, op + k' * 3, none⟩) hgr).trans ((hb.cell (p := ⟨gp, op + k' * 3, none⟩) hgl').trans r0), (hbn.cell (p := ⟨gp, op + k' * 3 + 2, none⟩) hgr).trans ((hb.cell (p := ⟨gp, op + k' * 3 + 2, none⟩) hgl').trans r2)⟩
              have HU := Lib.hid (show atW l hol x = mm ∧ atW l hol (y - 1) = mm ∧ (∀ t, ctn (x, y) t = true → atW l hol t = mm) from ⟨u5, u6, u7⟩)
              clear q0 q1 q2 hp hbe u1 u5 u6 u7 u8 hkP hgl'
              have k0 := cell_regrown f0
              have k3 := cell_regrown f3
              have k4 := cell_regrown f4
              rcases hprev with ⟨hz1, hz2⟩ | ⟨k', ⟨hz1, hz2, hz3, hz4⟩, pm, hz5, hz6, f5, f6⟩
              case' inr =>
                have k5 := cell_regrown f5
                have k6 := cell_regrown f6
              all_goals
                go_wp2_with fail
                refine wp_region_quiet_below (by kernel_rfl) (by kernel_rfl) ?_
                iterate 33 (go_big_quiet_step ((with_reducible exact Calls.regrown_of (HVQ.out _))))
                refine wpQuiet_nil ?_
                intro _ hw'
                obtain ⟨⟨dq, osq⟩, hw''⟩ := hw'
                subst hw''
                go_wp2_with fail
                obtain ⟨W13, hW13⟩ : ∃ W, grow (redrawn (wr.alloc (.cells #[.int .i64 x, .int .i64 y] 37)) dq) osq = W := ⟨_, rfl⟩
                have hb13 : Below (wr.alloc (.cells #[.int .i64 x, .int .i64 y] 37)).heap.size (wr.alloc (.cells #[.int .i64 x, .int .i64 y] 37)) W13 := by rw [← hW13]; exact below_regrown _ dq osq
                rw [hW13]
                have hb8r : Below w8.heap.size w8 W13 := (hb.trans (hbn.mono hsr)).trans (hb13.mono HPR.out.size)
                have hbw : Below w.heap.size w W13 := HB8.out.trans (hb8r.mono hsQ)
                obtain ⟨x0, x1, x2, x3⟩ := (HXQ.out.below hb8r).cells
                obtain ⟨g3, g4⟩ := (HQB.out.below hb13 HQB.out.lt).two
                have g0 := (hb13.cell (p := ⟨gp, op + k * 3, none⟩) (Nat.lt_of_lt_of_le hgr hbn.size)).trans f0
                have HE1 : Hid (∀ d os, Calls Try.prog 18 #[.slice A n c, .slice B m c', .int .i64 x] (grow (redrawn W13 d) os) fun e w' => e = .returned (.string mm) ∧ Below (grow (redrawn W13 d) os).heap.size (grow (redrawn W13 d) os) w') := Lib.hid (fun d os => by
                  rw [← HU.out.1]; exact HAT.out x _ ((HA.out.below hbw).below (below_regrown W13 d os)) ((HB.out.below hbw).below (below_regrown W13 d os)))
                have HE2 : Hid (∀ d os, Calls Try.prog 18 #[.slice A n c, .slice B m c', .int .i64 (y - 1)] (grow (redrawn W13 d) os) fun e w' => e = .returned (.string mm) ∧ Below (grow (redrawn W13 d) os).heap.size (grow (redrawn W13 d) os) w') := Lib.hid (fun d os => by
                  rw [← HU.out.2.1]; exact HAT.out (y - 1) _ ((HA.out.below hbw).below (below_regrown W13 d os)) ((HB.out.below hbw).below (below_regrown W13 d os)))
                have HB13 := Lib.hid hb8r
                have HBW13 := Lib.hid hbw
                have HG := Lib.hid (show gp < W13.heap.size ∧ W13.cell? ⟨gp, op + k * 3, none⟩ = some (.string mm) from ⟨Nat.lt_of_lt_of_le (Nat.lt_of_lt_of_le hgr hbn.size) hb13.size, g0⟩)
                have HQ13 := Lib.hid (HQB.out.below hb13 HQB.out.lt)
                clear hW13 hb8r hbw hb13 e0 e1 e2 f0 f3 f4 k0 k3 k4
                have k0 := cell_regrown x0
                have k1 := cell_regrown x1
                have k3 := cell_regrown g3
                have k4 := cell_regrown g4
                have k7 := cell_regrown g0
                go_wp2_with fail
                refine wp_region_quiet_below (by kernel_rfl) (by kernel_rfl) ?_
                iterate 29 (go_big_quiet_step (first | (with_reducible exact Calls.regrown_of (HE1.out _ _)) | (with_reducible exact Calls.regrown_of (HE2.out _ _))))
                refine wpQuiet_nil ?_
                intro _ hw'
                obtain ⟨⟨dq2, osq2⟩, hw''⟩ := hw'
                subst hw''
                go_wp2_with fail
                obtain ⟨W14, hW14⟩ : ∃ W, grow (redrawn W13 dq2) osq2 = W := ⟨_, rfl⟩
                have hb14 : Below W13.heap.size W13 W14 := by rw [← hW14]; exact below_regrown _ dq2 osq2
                rw [hW14]
                have hb8r : Below w8.heap.size w8 W14 := HB13.out.trans (hb14.mono HB13.out.size)
                have hbw : Below w.heap.size w W14 := HB8.out.trans (hb8r.mono hsQ)
                clear x0 x1 x2 x3 g3 g4 g0 k0 k1 k3 k4 k7
                obtain ⟨x0, x1, x2, x3⟩ := (HXQ.out.below hb8r).cells
                obtain ⟨g3, g4⟩ := (HQ13.out.below hb14 HQ13.out.lt).two
                have g0 := (hb14.cell (p := ⟨gp, op + k * 3, none⟩) HG.out.1).trans HG.out.2
                have HE3 : Hid (ctn (x, y) t = true → ∀ d os, Calls Try.prog 18 #[.slice A n c, .slice B m c', .int .i64 t] (grow (redrawn W14 d) os) fun e w' => e = .returned (.string mm) ∧ Below (grow (redrawn W14 d) os).heap.size (grow (redrawn W14 d) os) w') := Lib.hid (fun h d os => by
                  rw [← HU.out.2.2 t h]; exact HAT.out t _ ((HA.out.below hbw).below (below_regrown W14 d os)) ((HB.out.below hbw).below (below_regrown W14 d os)))
                have HB14 := Lib.hid hb8r
                clear hW14 hb8r hbw hb14 HE1 HE2
                have k0 := cell_regrown x0
                have k1 := cell_regrown x1
                have k3 := cell_regrown g3
                have k4 := cell_regrown g4
                have k7 := cell_regrown g0
                cases hct : ctn (x, y) t
                all_goals
                  have HCT := Lib.hid (refContains_v x y t _ hct)
                case' true => have HE4 := Lib.hid (HE3.out hct)
                case' false => have HE4 := HE3
                all_goals
                  clear hct HE3
                  go_wp2_with fail
                  refine wp_region_quiet_below (by kernel_rfl) (by kernel_rfl) ?_
                  iterate 17 (go_big_quiet_step (first | (with_reducible exact Calls.regrown_of (HCT.out _)) | (with_reducible exact Calls.regrown_of (HE4.out _ _))))
                  refine wpQuiet_nil ?_
                  intro _ hw'
                  obtain ⟨⟨dq3, osq3⟩, hw''⟩ := hw'
                  subst hw''
                  go_wp2_with fail
                  go_roundw
                  case rel => exact ⟨k + 1, by go_num, by omega, HB14.out.trans ((below_regrown W14 dq3 osq3).mono HB14.out.size)⟩
                  case measure => simp [intOf]; omega
            · obtain rfl : k = N1 + 1 := by omega
              have hbE := HB8.out.trans (hb.mono hsQ)
              have hsE := hbE.size
              go_wp2_with (go_at_call 14; (with_reducible refine (awake_any _).mono ?_); rintro e w9 ⟨rfl, hb9⟩; have hb10 := hbE.trans (hb9.mono hsE))
              go_ret
              exact ⟨rfl, hb10⟩
        · have d1 : decide (2678400 < b - a) = true := decide_eq_true (by omega)
          obtain rfl : P = [] := HNO.out (.inr (.inr (by omega)))
          clear hv
          go_wp2_with (first | (go_at_call 15; (with_reducible refine (HCK.out _ (HA.out.below hb2)).mono ?_); rintro e w3 ⟨rfl, hb3⟩; have hb4 := hb2.trans (hb3.mono hs2); have hs4 := hb4.size; have HX3 := Lib.hid (HBX1.out.below hb3); clear x0 x1 x2 x3; obtain ⟨a0, a1, a2, a3⟩ := HX3.out.cells) | (go_at_call 21; (with_reducible refine (HC1.out HQ.out _ (HA.out.below hb4) (HB.out.below hb4)).mono ?_); rintro e w5 ⟨R, r, rfl, hr, hrm, hPR, hb5⟩; have HP := Lib.hid hPR; have hb6 := hb4.trans (hb5.mono hs4); have hs6 := hb6.size; have HX5 := Lib.hid (HX3.out.below hb5); clear a0 a1 a2 a3 hPR; obtain ⟨c0, c1, c2, c3⟩ := HX5.out.cells) | (go_at_call 25; (with_reducible refine (HVA.out _).mono ?_); rintro e w7 ⟨rfl, hb7⟩; have hb8 := hb6.trans (hb7.mono hs6); have hs8 := hb8.size; have HX7 := Lib.hid (HX5.out.below hb7); have HP7 := Lib.hid (HP.out.below hb7); clear c0 c1 c2 c3; obtain ⟨x0, x1, x2, x3⟩ := HX7.out.cells) | (go_at_call 14; (with_reducible refine (awake_any _).mono ?_); rintro e w9 ⟨rfl, hb9⟩; have hb10 := hb8.trans (hb9.mono hs8)))
          go_ret
          exact ⟨rfl, hb10⟩
    · have hzq : (ev == 0) = false := by simp [hz0]
      go_wp2_with (first
        | (go_at_call 15; (with_reducible refine (HCK.out _ (HA.out.below hb2)).mono ?_); rintro e w3 ⟨rfl, hb3⟩; have hb4 := hb2.trans (hb3.mono hs2); have hs4 := hb4.size)
        | (go_at_call 14; (with_reducible refine (awake_any _).mono ?_); rintro e w7 ⟨rfl, hb7⟩; have hb8 := hb4.trans (hb7.mono hs4)))
      go_ret
      exact ⟨rfl, hb8⟩
end Go.Proofs.Ytpbohnlfiaigjaa
