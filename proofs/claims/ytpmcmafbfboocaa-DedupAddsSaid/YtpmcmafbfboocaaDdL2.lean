/- Walk of the law DedupAdds. -/
import Derived.Test.YtpmcmafbfboocaaDdX
import Derived.ChangeKeysEq
namespace Go.Proofs.Ytpmcmafbfboocaa
open Go.RowKit

theorem eqPair (a b x y : Int) (w : World) : (binOp .eql 27 (.agg #[.int .i64 a, .int .i64 b]) (.agg #[.int .i64 x, .int .i64 y])).run Try.prog w = .ok (.bool (a == x && b == y)) w := by
  have u3 := Try.underlying3
  have a3 := Try.isAgg3
  have z3 := Try.sizeOf3
  obtain ⟨i0, hi0⟩ : ∃ i, Try.prog.info? 3 = some i := ⟨_, rfl⟩
  have hc : Try.prog.cellsOf 3 = 1 := by kernel_rfl
  rw [run_eql_struct, show (10000 : Nat) = 9999 + 1 from rfl, run_equalIn_array w 9999 _ _ Try.underlying27 hi0, hc]
  by_cases h1 : a = x <;> by_cases h2 : b = y <;> simp [h1, h2, Op.eqItems, List.range, List.range.loop, part, run_equalIn_int (w := w) 9998 3 .i64 .i64 _ _ u3, show (9999 : Nat) = 9998 + 1 from rfl]
theorem beq_flip (a b : Int) : (a == b) = decide (b = a) := by
  rw [Bool.eq_iff_iff, beq_iff_eq, decide_eq_true_eq]; exact eq_comm
theorem guardPair : Try.prog.eqGuardType Try.prog.depth 27 = false := by kernel_rfl
set_option maxRecDepth 100000 in
set_option maxHeartbeats 16000000 in
theorem walkDedupAdds (A : Option Addr) (n c : Nat) (l : List Rg) (x0 x1 y0 y1 : Int) (W : World) (hA : RgR W A l) (hn : l.length = n) (hc : n ≤ c) (hm : c ≤ maxLen) (h0 : A = none → n = 0) :
    Calls Try.prog 5 #[.slice A n c, .agg #[.int .i64 x0, .int .i64 x1], .agg #[.int .i64 y0, .int .i64 y1]] W fun e w' => e = .returned (.bool true) ∧ Below W.heap.size W w' := by
  have HAL := Lib.hid alive_any
  have hb0 : Below W.heap.size W ((W.alloc (.cells #[.int .i64 x0, .int .i64 x1] 27)).alloc (.cells #[.int .i64 y0, .int .i64 y1] 27)) := ((Below.refl _ W).alloc (Nat.le_refl _) _).alloc (by simp) _
  have hBx := (Blk.new W 27 #[.int .i64 x0, .int .i64 x1]).alloc (.cells #[.int .i64 y0, .int .i64 y1] 27)
  have hBy := Blk.new (W.alloc (.cells #[.int .i64 x0, .int .i64 x1] 27)) 27 #[.int .i64 y0, .int .i64 y1]
  rw [World.size_alloc] at hBy
  obtain ⟨W2, hW2⟩ : ∃ W2, (W.alloc (.cells #[.int .i64 x0, .int .i64 x1] 27)).alloc (.cells #[.int .i64 y0, .int .i64 y1] 27) = W2 := ⟨_, rfl⟩
  rw [hW2] at hb0 hBx hBy
  have HB0 := Lib.hid hb0
  have hA2 := hA.below hb0
  obtain ⟨v, hv⟩ : ∃ v, (decide (n ≤ 100) && canB l) = v := ⟨_, rfl⟩
  have HLT := Lib.hid (light_any A n c l W2 hA2 hn hc hm v hv)
  cases v
  · clear hA hA2 hn h0 hv hBx hBy hb0
    go_enter Try.func5, Try.ntmps5
    go_wp2_with (first
      | (go_at_call 13; (with_reducible refine HLT.out.mono ?_); rintro e w1 ⟨rfl, hb1⟩; have HB1 := Lib.hid (HB0.out.trans (hb1.mono HB0.out.size)); clear hb1)
      | (go_at_call 10; (with_reducible refine (HAL.out _).mono ?_); rintro e w3 ⟨rfl, hb3⟩; have HB3 := Lib.hid (HB1.out.trans (hb3.mono HB1.out.size)); clear hb3))
    go_ret
    exact ⟨rfl, HB3.out⟩
  · rw [Bool.and_eq_true, decide_eq_true_eq] at hv
    have hl := canB_iff.1 hv.2
    have h6 : n ≤ 1000000 := by omega
    have HCX : Hid (∀ w, Below W2.heap.size W2 w → (w.cell? ⟨W.heap.size, 0, none⟩ = some (.int .i64 x0) ∧ w.cell? ⟨W.heap.size, 1, none⟩ = some (.int .i64 x1)) ∧ (w.cell? ⟨W.heap.size + 1, 0, none⟩ = some (.int .i64 y0) ∧ w.cell? ⟨W.heap.size + 1, 1, none⟩ = some (.int .i64 y1))) :=
      Lib.hid fun w h => ⟨(hBx.below h hBx.lt).two, (hBy.below h hBy.lt).two⟩
    by_cases hr : rfs l x0 x1 = 0
    · obtain ⟨r1, r2⟩ := rfs_zero.1 hr
      have hLC := adL_can r1 hl r2
      obtain ⟨L, hL⟩ : ∃ L, adL x0 x1 l = L := ⟨_, rfl⟩
      obtain ⟨m, hLm⟩ : ∃ m, L.length = m := ⟨_, rfl⟩
      have hm6 : m ≤ 1000000 := by
        have h1 : (adL x0 x1 l).length ≤ l.length + 1 := by
          rw [← ins_adL hl r2, List.length_append, List.length_cons, List.length_take, List.length_drop]
          have : iA x0 x1 l ≤ iB x0 x1 l := by unfold iA iB; split <;> split <;> omega
          omega
        rw [hL] at h1; omega
      have HAD := Lib.hid (fun w (h : Below W2.heap.size W2 w) => add_got A n c l x0 x1 w hl (hA2.below h) hn h0 h6 hc hm hr hL hLm)
      have HRA := Lib.hid (fun w (h : Below W2.heap.size W2 w) => refAdd_got A n c l x0 x1 w hl (hA2.below h) hn h6 hc hm hr hL hLm)
      have hh1 : hasL L x0 x1 = true := by rw [← hL, adL_has x0 x1 hl]; simp
      have hh2 : hasL L y0 y1 = (hasL l y0 y1 || (decide (y0 = x0) && decide (y1 = x1))) := by rw [← hL, adL_has y0 y1 hl]
      rw [hL] at hLC
      have HSM := Lib.hid (fun A B c d w (h1 : RgR w A L) (h2 : RgR w B L) => same_eq A B m c d L w h1 h2 hLm hm6)
      have HCK := Lib.hid (fun A c w (h1 : RgR w A L) hc hm => check_any A m c L w h1 hLm hc hm)
      rw [canB_iff.2 hLC] at HCK
      have HH1 := Lib.hid (fun A c w (h1 : RgR w A L) hc hm => has_is true A m c L x0 x1 hh1 w hLC hm6 h1 hLm hc hm)
      obtain ⟨v2, hv2⟩ : ∃ v, hasL L y0 y1 = v := ⟨_, rfl⟩
      obtain ⟨v3, hv3⟩ : ∃ v, hasL l y0 y1 = v := ⟨_, rfl⟩
      have HH2 := Lib.hid (fun A c w (h1 : RgR w A L) hc hm => has_is v2 A m c L y0 y1 hv2 w hLC hm6 h1 hLm hc hm)
      have HH3 := Lib.hid (fun w (h : Below W2.heap.size W2 w) => has_is v3 A n c l y0 y1 hv3 w hl h6 (hA2.below h) hn hc hm)
      rw [hv2, hv3] at hh2
      have hpr : v3 = false → ∀ w, (binOp .eql 27 (.agg #[.int .i64 x0, .int .i64 x1]) (.agg #[.int .i64 y0, .int .i64 y1])).run Try.prog w = .ok (.bool v2) w := fun e w => by
        rw [eqPair, hh2, e]
        rw [Bool.false_or, beq_flip, beq_flip]
      have HPR := Lib.hid hpr; have HH23 := Lib.hid hh2
      obtain ⟨⟨cx0, cx1⟩, cy0, cy1⟩ := HCX.out W2 (Below.refl _ _)
      clear hA hA2 hn h0 hv hBx hBy hb0 hr r1 r2 hLC hL hLm hh1 hv2 hv3 hl hh2 hpr
      go_enter Try.func5, Try.ntmps5
      go_wp2_with (first
        | (go_at_call 13; (with_reducible refine HLT.out.mono ?_); rintro e w1 ⟨rfl, hb1⟩; have HB1 := Lib.hid hb1; clear cx0 cx1 cy0 cy1; obtain ⟨⟨cx0, cx1⟩, cy0, cy1⟩ := HCX.out _ hb1; clear hb1)
        | (go_at_call 18; (with_reducible refine (HAD.out _ HB1.out).mono ?_); rintro e w2 ⟨A2, c2, rfl, hc2, hm2, hR2, hz2, hb2⟩; have HC2 := Lib.hid hc2; have HM2 := Lib.hid hm2; have HR2 := Lib.hid hR2; have HB2 := Lib.hid (HB1.out.trans (hb2.mono HB1.out.size)); clear cx0 cx1 cy0 cy1; obtain ⟨⟨cx0, cx1⟩, cy0, cy1⟩ := HCX.out _ HB2.out; clear hc2 hm2 hR2 hz2 hb2)
        | (go_at_call 19; (with_reducible refine (HRA.out _ HB2.out).mono ?_); rintro e w3 ⟨A3, c3, rfl, hc3, hm3, hR3, hz3, hb3⟩; have HR3 := Lib.hid hR3; have HR23 := Lib.hid (HR2.out.below hb3); have HB3 := Lib.hid (HB2.out.trans (hb3.mono HB2.out.size)); clear cx0 cx1 cy0 cy1; clear hc3 hm3 hR3 hz3 hb3)
        | (go_at_call 20; (with_reducible refine (HSM.out A2 A3 c2 c3 _ HR23.out HR3.out).mono ?_); rintro e w4 ⟨rfl, hb4⟩; have HR4 := Lib.hid (HR23.out.below hb4); have HB4 := Lib.hid (HB3.out.trans (hb4.mono HB3.out.size)); obtain ⟨⟨cx0, cx1⟩, cy0, cy1⟩ := HCX.out _ HB4.out; clear hb4))
      have k0 := cell_regrown cx0
      have k1 := cell_regrown cx1
      have k2 := cell_regrown cy0
      have k3 := cell_regrown cy1
      have HE1 := Lib.hid (fun w (h : Below w4.heap.size w4 w) => HCK.out A2 c2 w (HR4.out.below h) HC2.out HM2.out)
      have HE2 := Lib.hid (fun w (h : Below w4.heap.size w4 w) => HH1.out A2 c2 w (HR4.out.below h) HC2.out HM2.out)
      have HE3 := Lib.hid (fun w (h : Below w4.heap.size w4 w) => HH2.out A2 c2 w (HR4.out.below h) HC2.out HM2.out)
      have HE4 := Lib.hid (fun w (h : Below w4.heap.size w4 w) => HH3.out w (HB4.out.trans (h.mono HB4.out.size)))
      have gp := guardPair
      clear HH1 HH2 HH3 HCK
      cases v3
      · have hpr := HPR.out rfl
        refine wp_region_quiet_below (by kernel_rfl) (by kernel_rfl) ?_
        iterate 34 (go_big_quiet_step (first | (with_reducible exact Calls.regrown_of (HE1.out _ (below_regrown _ _ _))) | (with_reducible exact Calls.regrown_of (HE2.out _ (below_regrown _ _ _))) | (with_reducible exact Calls.regrown_of (HE3.out _ (below_regrown _ _ _))) | (with_reducible exact Calls.regrown_of (HE4.out _ (below_regrown _ _ _))) | (with_reducible exact Calls.regrown_of (HAL.out _))))
        refine wpQuiet_nil ?_
        intro _ hw'
        obtain ⟨⟨dq, osq⟩, hw''⟩ := hw'
        subst hw''
        go_wp2_with fail
        go_ret
        exact ⟨by simp, HB0.out.trans ((HB4.out.trans ((below_regrown _ dq osq).mono HB4.out.size)).mono HB0.out.size)⟩
      · obtain rfl : v2 = true := by rw [HH23.out]; rfl
        refine wp_region_quiet_below (by kernel_rfl) (by kernel_rfl) ?_
        iterate 34 (go_big_quiet_step (first | (with_reducible exact Calls.regrown_of (HE1.out _ (below_regrown _ _ _))) | (with_reducible exact Calls.regrown_of (HE2.out _ (below_regrown _ _ _))) | (with_reducible exact Calls.regrown_of (HE3.out _ (below_regrown _ _ _))) | (with_reducible exact Calls.regrown_of (HE4.out _ (below_regrown _ _ _))) | (with_reducible exact Calls.regrown_of (HAL.out _))))
        refine wpQuiet_nil ?_
        intro _ hw'
        obtain ⟨⟨dq, osq⟩, hw''⟩ := hw'
        subst hw''
        go_wp2_with fail
        go_ret
        exact ⟨rfl, HB0.out.trans ((HB4.out.trans ((below_regrown _ dq osq).mono HB4.out.size)).mono HB0.out.size)⟩
    · have HAD := Lib.hid (fun w (h : Below W2.heap.size W2 w) => add_no A n c l x0 x1 w hl (hA2.below h) hn h6 hc hm hr)
      have HRA := Lib.hid (fun w (h : Below W2.heap.size W2 w) => refAdd_no A n c l x0 x1 w hl (hA2.below h) hn hc hm hr)
      have HSM := Lib.hid (fun w => same_eq none none 0 0 0 [] w RgR.nil RgR.nil rfl (by decide))
      obtain ⟨⟨cx0, cx1⟩, cy0, cy1⟩ := HCX.out W2 (Below.refl _ _)
      clear hA hA2 hn h0 hv hBx hBy hb0 hr hl
      go_enter Try.func5, Try.ntmps5
      go_wp2_with (first
        | (go_at_call 13; (with_reducible refine HLT.out.mono ?_); rintro e w1 ⟨rfl, hb1⟩; have HB1 := Lib.hid hb1; clear cx0 cx1 cy0 cy1; obtain ⟨⟨cx0, cx1⟩, cy0, cy1⟩ := HCX.out _ hb1; clear hb1)
        | (go_at_call 18; (with_reducible refine (HAD.out _ HB1.out).mono ?_); rintro e w2 ⟨rfl, hb2⟩; have HB2 := Lib.hid (HB1.out.trans (hb2.mono HB1.out.size)); clear cx0 cx1 cy0 cy1; obtain ⟨⟨cx0, cx1⟩, cy0, cy1⟩ := HCX.out _ HB2.out; clear hb2)
        | (go_at_call 19; (with_reducible refine (HRA.out _ HB2.out).mono ?_); rintro e w3 ⟨rfl, rfl⟩)
        | (go_at_call 20; (with_reducible refine (HSM.out _).mono ?_); rintro e w4 ⟨rfl, hb4⟩; have HB4 := Lib.hid (HB2.out.trans (hb4.mono HB2.out.size)); clear hb4)
        | (go_at_call 10; (with_reducible refine (HAL.out _).mono ?_); rintro e w5 ⟨rfl, hb5⟩; have HB5 := Lib.hid (HB4.out.trans (hb5.mono HB4.out.size)); clear hb5))
      go_ret
      exact ⟨rfl, HB0.out.trans (HB5.out.mono HB0.out.size)⟩
end Go.Proofs.Ytpmcmafbfboocaa
