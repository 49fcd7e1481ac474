/- Walk: the law on lengths. -/
import Derived.Test.YtobkafkknbdacaaDoorBaQ
import Derived.Deep.QuietTactic
namespace Go.Proofs.YtobkafkknbdacaaDoor.Va
open Go.RowKit

theorem rec_big (r : Rc) (N : Nat) (h : r.sa.size ≤ 20 ∧ r.sb.size ≤ 20) : SzR (List.replicate N r) := fun q hq => by
  obtain rfl := (List.mem_replicate.1 hq).2
  unfold maxLen
  omega
set_option maxRecDepth 100000 in
set_option maxHeartbeats 16000000 in
theorem walkBatchLengths (s n f : Int) (A : Option Addr) (m c : Nat) (r : Rc) (mo : Int) (w : World) (hrn : r.Nums) (hmo : (Lit.int .i64 mo).wf = true) (hT : True) :
    Calls Tryd.prog 4 #[.agg #[.int .i64 s, .int .i64 n, .int .i64 f, .slice A m c], .agg r.cells, .int .i64 mo] w fun e w' => e = .returned (.bool true) ∧ Below w.heap.size w w' := by
  have HAL := Lib.hid alive_any
  obtain ⟨i0, hi0, hz0, hz1, hz2⟩ := info_parts recInfo
  have hmz := i64_bounds hmo
  obtain ⟨L1, hL1⟩ : ∃ L1, w.alloc (.cells #[.int .i64 s, .int .i64 n, .int .i64 f, .slice A m c] 31) = L1 := ⟨_, rfl⟩
  have hs1 : L1.heap.size = w.heap.size + 1 := by rw [← hL1]; simp
  have hb1 : Blk L1 w.heap.size 31 #[.int .i64 s, .int .i64 n, .int .i64 f, .slice A m c] := hL1 ▸ Blk.new w _ _
  have hB1 : Below w.heap.size w L1 := hL1 ▸ below_lit w _
  clear hrn hmo
  obtain ⟨s0, s1, s2, sa, sb, s5, s6, s7, s8, b9, s10, b11⟩ := r
  simp only [Rc.cells]
  obtain ⟨L, hL⟩ : ∃ L, L1.alloc (.cells #[.int .i64 s0, .int .i64 s1, .int .i64 s2, .string sa, .string sb, .int .i64 s5, .int .i64 s6, .int .i64 s7, .int .i64 s8, .bool b9, .int .i64 s10, .bool b11] 33) = L := ⟨_, rfl⟩
  obtain ⟨g, hg⟩ : ∃ g, w.heap.size = g := ⟨_, rfl⟩
  rw [hg] at hb1 hs1
  have hbr : Blk L (g + 1) 33 #[.int .i64 s0, .int .i64 s1, .int .i64 s2, .string sa, .string sb, .int .i64 s5, .int .i64 s6, .int .i64 s7, .int .i64 s8, .bool b9, .int .i64 s10, .bool b11] := by
    have h := Blk.new L1 33 #[.int .i64 s0, .int .i64 s1, .int .i64 s2, .string sa, .string sb, .int .i64 s5, .int .i64 s6, .int .i64 s7, .int .i64 s8, .bool b9, .int .i64 s10, .bool b11]
    rw [hs1, hL] at h
    exact h
  have hbb : Blk L g 31 #[.int .i64 s, .int .i64 n, .int .i64 f, .slice A m c] := hL ▸ hb1.alloc _
  have HB := Lib.hid (show Below w.heap.size w L from hL ▸ hB1.alloc hB1.size _)
  have HBR := Lib.hid hbr; have HBB := Lib.hid hbb
  have HGS : Hid (w.heap.size = g) := Lib.hid hg
  have HG2 : Hid (g + 1 < L.heap.size) := Lib.hid hbr.lt
  have e3 := hbb.cell 3
  have r3 := hbr.cell 3; have r4 := hbr.cell 4
  simp at e3 r3 r4
  clear hbr hbb hb1 hB1
  by_cases c1 : 0 < m
  · have d1 : decide ((0 : Int) < (m : Int)) = true := decide_eq_true (by omega)
    have d1n : decide (0 < m) = true := decide_eq_true c1
    have d1i : (0 : Int) < (m : Int) := by omega
    go_enter Tryd.func4, Tryd.ntmps4
    go_wp2_with (go_at_call 6; (with_reducible refine (HAL.out _).mono ?_); rintro e w9 ⟨rfl, hb9⟩; have HB9 := Lib.hid (HB.out.trans (hb9.mono HB.out.size)); clear hb9)
    go_ret
    exact ⟨rfl, HB9.out⟩
  have hm0 : m = 0 := by omega
  subst hm0
  clear c1
  by_cases c2 : mo < -2
  · go_enter Tryd.func4, Tryd.ntmps4
    go_wp2_with (go_at_call 6; (with_reducible refine (HAL.out _).mono ?_); rintro e w9 ⟨rfl, hb9⟩; have HB9 := Lib.hid (HB.out.trans (hb9.mono HB.out.size)); clear hb9)
    go_ret
    exact ⟨rfl, HB9.out⟩
  by_cases c3 : 2 < mo
  · go_enter Tryd.func4, Tryd.ntmps4
    go_wp2_with (go_at_call 6; (with_reducible refine (HAL.out _).mono ?_); rintro e w9 ⟨rfl, hb9⟩; have HB9 := Lib.hid (HB.out.trans (hb9.mono HB.out.size)); clear hb9)
    go_ret
    exact ⟨rfl, HB9.out⟩
  by_cases c4 : 20 < sa.size
  · have d4 : decide ((20 : Int) < (sa.size : Int)) = true := decide_eq_true (by omega)
    have d4i : (20 : Int) < (sa.size : Int) := by omega
    go_enter Tryd.func4, Tryd.ntmps4
    go_wp2_with (go_at_call 6; (with_reducible refine (HAL.out _).mono ?_); rintro e w9 ⟨rfl, hb9⟩; have HB9 := Lib.hid (HB.out.trans (hb9.mono HB.out.size)); clear hb9)
    go_ret
    exact ⟨rfl, HB9.out⟩
  have d4 : decide ((20 : Int) < (sa.size : Int)) = false := decide_eq_false (by omega)
  have d4i : ¬ (20 : Int) < (sa.size : Int) := by omega
  by_cases c5 : 20 < sb.size
  · have d5 : decide ((20 : Int) < (sb.size : Int)) = true := decide_eq_true (by omega)
    have d5i : (20 : Int) < (sb.size : Int) := by omega
    go_enter Tryd.func4, Tryd.ntmps4
    go_wp2_with (go_at_call 6; (with_reducible refine (HAL.out _).mono ?_); rintro e w9 ⟨rfl, hb9⟩; have HB9 := Lib.hid (HB.out.trans (hb9.mono HB.out.size)); clear hb9)
    go_ret
    exact ⟨rfl, HB9.out⟩
  have d5 : decide ((20 : Int) < (sb.size : Int)) = false := decide_eq_false (by omega)
  have d5i : ¬ (20 : Int) < (sb.size : Int) := by omega
  obtain ⟨N, hN⟩ : ∃ N : Nat, 4096 + mo = (N : Int) := ⟨(4096 + mo).toNat, by omega⟩
  have hw0 : IntKind.i64.wrap (4096 + mo) = (N : Int) := by rw [← hN]; exact IntWalk.i64_in _ (by omega)
  have hN1 : N ≤ 4098 := by omega
  have hN2 : 4094 ≤ N := by omega
  have hNi : (N : Int) ≤ 4098 := by omega
  have hN0 : (0 : Int) ≤ (N : Int) := by omega
  have HSZ := Lib.hid (rec_big ⟨s0, s1, s2, sa, sb, s5, s6, s7, s8, b9, s10, b11⟩ N (by show sa.size ≤ 20 ∧ sb.size ≤ 20; omega))
  have HNN := Lib.hid hN1; have HN2 := Lib.hid hN2
  clear hmz c4 c5
  go_enter Tryd.func4, Tryd.ntmps4
  go_upto_region 4 with (at_make; refine wpList_make_full _ rfl (.tmp 35) (.tmp 35) 22 rfl L.heap.size 33 i0 _ 12 Tryd.underlying22 hi0 hz0 hz1 _ _ _ _ N rfl rfl (by first | omega | exact hN) (by first | omega | exact hN) (by rw [hz2]; omega) (by unfold maxLen; omega) (Nat.le_refl _) ?_; intro w1 q1 q2; have HF1 : Hid (Fil w1 L.heap.size N 0 ⟨s0, s1, s2, sa, sb, s5, s6, s7, s8, b9, s10, b11⟩) := Lib.hid (Fil.make q1); have hb1 : Below L.heap.size L w1 := (Below.refl _ _).grown q2 (Nat.le_refl _) (fun _ h => by cases h); have HB1 := Lib.hid hb1; clear q1 q2 hb1)
  obtain ⟨gl, hgl⟩ : ∃ gl, L.heap.size = gl := ⟨_, rfl⟩
  have HGL : Hid (L.heap.size = gl) := Lib.hid hgl
  rw [hgl] at HF1 HG2 ⊢
  clear hgl e3 r3 r4 d4 d4i d5 d5i
  have HR1 := Lib.hid (HBR.out.below HB1.out (by rw [HGL.out]; exact HG2.out)); have HBB1 := Lib.hid (HBB.out.below HB1.out (by rw [HGL.out]; have := HG2.out; omega))
  have HBW := Lib.hid (HB.out.trans (HB1.out.mono HB.out.size))
  have HGW : Hid (w.heap.size ≤ gl) := Lib.hid (by have := HGS.out; have := HG2.out; omega)
  clear HB1
  go_wp2_with fail
  go_loopw [8] (fun iv wr => ∃ k : Nat, iv = .int .i64 k ∧ k ≤ N ∧ Hid (Fil wr gl N k ⟨s0, s1, s2, sa, sb, s5, s6, s7, s8, b9, s10, b11⟩) ∧ Hid (Blk wr (g + 1) 33 #[.int .i64 s0, .int .i64 s1, .int .i64 s2, .string sa, .string sb, .int .i64 s5, .int .i64 s6, .int .i64 s7, .int .i64 s8, .bool b9, .int .i64 s10, .bool b11]) ∧ Hid (Blk wr g 31 #[.int .i64 s, .int .i64 n, .int .i64 f, .slice A 0 c]) ∧ Hid (Below w.heap.size w wr)) (fun iv _ => N - (intOf iv).toNat)
  case atStart => exact ⟨0, rfl, by omega, HF1, HR1, HBB1, HBW⟩
  case round =>
    obtain ⟨k, rfl, hk, HF, HR, HBL, HBX⟩ := hrel
    by_cases hlt : k < N
    · have hlt' : (k : Int) < (N : Int) := by omega
      have hk0 : (0 : Int) ≤ (k : Int) := by omega
      obtain ⟨v0, hv0⟩ := HF.out.cellv hlt 0 (by decide)
      obtain ⟨v1, hv1⟩ := HF.out.cellv hlt 1 (by decide)
      obtain ⟨v2, hv2⟩ := HF.out.cellv hlt 2 (by decide)
      obtain ⟨v3, hv3⟩ := HF.out.cellv hlt 3 (by decide)
      obtain ⟨v4, hv4⟩ := HF.out.cellv hlt 4 (by decide)
      obtain ⟨v5, hv5⟩ := HF.out.cellv hlt 5 (by decide)
      obtain ⟨v6, hv6⟩ := HF.out.cellv hlt 6 (by decide)
      obtain ⟨v7, hv7⟩ := HF.out.cellv hlt 7 (by decide)
      obtain ⟨v8, hv8⟩ := HF.out.cellv hlt 8 (by decide)
      obtain ⟨v9, hv9⟩ := HF.out.cellv hlt 9 (by decide)
      obtain ⟨v10, hv10⟩ := HF.out.cellv hlt 10 (by decide)
      obtain ⟨v11, hv11⟩ := HF.out.cellv hlt 11 (by decide)
      have hfr := HF.out.frozen
      have q0 := HR.out.cell 0
      have q1 := HR.out.cell 1
      have q2 := HR.out.cell 2
      have q3 := HR.out.cell 3
      have q4 := HR.out.cell 4
      have q5 := HR.out.cell 5
      have q6 := HR.out.cell 6
      have q7 := HR.out.cell 7
      have q8 := HR.out.cell 8
      have q9 := HR.out.cell 9
      have q10 := HR.out.cell 10
      have q11 := HR.out.cell 11
      simp at q0 q1 q2 q3 q4 q5 q6 q7 q8 q9 q10 q11 hv0
      have HST := Lib.hid (HF.out.step hlt (k * 12) rfl)
      have HRS := Lib.hid (far12 (g := gl) (r := ⟨s0, s1, s2, sa, sb, s5, s6, s7, s8, b9, s10, b11⟩) HR.out (by have := HG2.out; omega) (k * 12))
      have HBS := Lib.hid (far12 (g := gl) (r := ⟨s0, s1, s2, sa, sb, s5, s6, s7, s8, b9, s10, b11⟩) HBL.out (by have := HG2.out; omega) (k * 12))
      have HXS := Lib.hid (keepO HBX.out HGW.out ⟨s0, s1, s2, sa, sb, s5, s6, s7, s8, b9, s10, b11⟩ (k * 12))
      go_wp2_with fail
      go_roundw
      case rel => exact ⟨k + 1, by go_num, by omega, HST, HRS, HBS, HXS⟩
      case measure => simp [intOf]; omega
    · obtain rfl : k = N := by omega
      have e3 := HBL.out.cell 3
      have hfr := HBL.out.frozen
      simp at e3
      have HRL := Lib.hid HF.out.recs
      have hgne : gl ≠ g := by have := HG2.out; omega
      go_upto_region 9 with fail
      have hg9 : w.heap.size ≤ g := Nat.le_of_eq HGS.out
      obtain ⟨W, hW⟩ : ∃ W, wr.setCell ⟨g, 3, none⟩ (.slice (some ⟨gl, 0, none⟩) k k) = W := ⟨_, rfl⟩
      have hbb : Blk W g 31 #[.int .i64 s, .int .i64 n, .int .i64 f, .slice (some ⟨gl, 0, none⟩) k k] := hW ▸ HBL.out.set_ 3 _
      have hrr : RecR W (some ⟨gl, 0, none⟩) (List.replicate k ⟨s0, s1, s2, sa, sb, s5, s6, s7, s8, b9, s10, b11⟩) := hW ▸ HRL.out.keep (by simp) (fun a ha _ => by
        obtain rfl := Option.some.inj ha
        exact Below.heap_setCell wr ⟨g, 3, none⟩ _ gl hgne)
      have hbw : Below w.heap.size w W := hW ▸ HBX.out.setCell hg9 _
      rw [hW]
      have HBW9 := Lib.hid hbw
      have HCK : Hid (∀ W', Below W.heap.size W W' → Calls Tryd.prog 9 #[.agg #[.int .i64 s, .int .i64 n, .int .i64 f, .slice (some ⟨gl, 0, none⟩) k k]] W' fun e w' => e = .returned (.int .i64 (bkE s n f (List.replicate k ⟨s0, s1, s2, sa, sb, s5, s6, s7, s8, b9, s10, b11⟩))) ∧ Below W'.heap.size W' w') := Lib.hid (fun W' h => bchk_any s n f (hrr.below h) (by simp) (by have := HNN.out; omega) HSZ.out)
      have HRK : Hid (∀ W', Below W.heap.size W W' → Calls Tryd.prog 10 #[.agg #[.int .i64 s, .int .i64 n, .int .i64 f, .slice (some ⟨gl, 0, none⟩) k k]] W' fun e w' => e = .returned (.int .i64 (bkE s n f (List.replicate k ⟨s0, s1, s2, sa, sb, s5, s6, s7, s8, b9, s10, b11⟩))) ∧ Below W'.heap.size W' w') := Lib.hid (fun W' h => refChk_any s n f (hrr.below h) (by simp) (by have := HNN.out; omega) HSZ.out)
      obtain ⟨E, hE⟩ : ∃ E, bkE s n f (List.replicate k ⟨s0, s1, s2, sa, sb, s5, s6, s7, s8, b9, s10, b11⟩) = E := ⟨_, rfl⟩
      rw [hE] at HCK HRK
      have a0 := cell_regrown (hbb.cell 0); have a1 := cell_regrown (hbb.cell 1); have a2 := cell_regrown (hbb.cell 2); have a3 := cell_regrown (hbb.cell 3)
      simp at a0 a1 a2 a3
      clear hE hW hbb hrr hbw e3 hfr hgne
      refine wp_region_quiet_below (by kernel_rfl) (by kernel_rfl) ?_
      iterate 9 (go_big_quiet_step (first | (with_reducible exact Calls.regrown_of (HCK.out _ (below_regrown _ _ _))) | (with_reducible exact Calls.regrown_of (HRK.out _ (below_regrown _ _ _))) | (with_reducible exact Calls.regrown_of (HAL.out _))))
      refine wpQuiet_nil ?_
      intro Wq hw'
      have hbq : Below W.heap.size W Wq := by
        obtain ⟨⟨dq, osq⟩, hw''⟩ := hw'
        rw [hw'']; exact below_regrown _ _ _
      clear hw'
      have HBF := Lib.hid (HBW9.out.trans (hbq.mono HBW9.out.size))
      clear hbq a0 a1 a2 a3
      go_wp2_with fail
      go_ret
      exact ⟨rfl, HBF.out⟩
end Go.Proofs.YtobkafkknbdacaaDoor.Va
