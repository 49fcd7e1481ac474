/- Walk: the reference's Encode. -/
import Derived.Test.YtokdfdinnaghmaaDoorTxDm
import Derived.Test.YtokdfdinnaghmaaDoorTxNo
import Derived.Test.YtokdfdinnaghmaaDoorRcErr
import Derived.Lib.QuietBelow
import Derived.BigQuiet
import Derived.Deep.Cut
import Derived.Deep.CutRange
import Derived.Laws.IdiomStrings
namespace Go.Proofs.YtokdfdinnaghmaaDoor.Tx
open Go Go.Lib Go.RowKit Go.Proofs.YtokdfdinnaghmaaDoor

/-- The words behind the first, each with its space. -/
def suf : List Wd → Wd
  | [] => []
  | w :: t => 32 :: (w ++ suf t)
theorem join_suf : ∀ (w : Wd) (t : List Wd), joinW 32 (w :: t) = w ++ suf t
  | w, [] => by simp [joinW, suf]
  | w, v :: t => by
    rw [joinW, join_suf v t]; simp [suf]
theorem suf_app : ∀ (a b : List Wd), suf (a ++ b) = suf a ++ suf b
  | [], _ => rfl
  | w :: t, b => by simp [suf, suf_app t b]
theorem bsz (a : ByteArray) : a.data.toList.length = a.size := by simp
/-- A sum of two texts. -/
theorem add_ex (a b : ByteArray) (h : a.size + b.size ≤ 100000) : ∃ c : ByteArray, c.data.toList = a.data.toList ++ b.data.toList ∧ c.size = a.size + b.size ∧ a ++ b = c ∧ ¬ 9223372036854775807 < a.size + b.size :=
  ⟨a ++ b, by simp [ByteArray.data_append], by simp, rfl, by omega⟩
theorem num_call (n : Nat) (h : n < 1000000000000000) : ∃ c : ByteArray, c.data.toList = decDigits n ∧ c.size ≤ 100 ∧ ∀ w, Calls Tryd.prog 23 #[.int .i64 n] w fun e w' => e = .returned (.string c) ∧ Below w.heap.size w w' :=
  ⟨S (decDigits n), S_data _, by rw [S_size]; exact Nat.le_trans (dec_len (k := 14) (by omega)) (by decide), fun w => refNumber_any n w (by omega)⟩
theorem ext_eq {p : ByteArray} (a b : Nat) (l : Wd) (h : p = S l) (k : (((⟨#[118, 116, 100, 99]⟩ : ByteArray).data.toList.drop a).take (b - a)) = l) : (⟨#[118, 116, 100, 99]⟩ : ByteArray).extract a b = p := by
  rw [h]
  refine ba_eq ?_
  rw [ext_bytes, k, S_data]
theorem letK_len (k : Nat) : (letK k).length ≤ 1 := by
  unfold letK
  split
  · decide
  · split
    · decide
    · split <;> decide
theorem bWord_len {b : Wd} (h : b.length ≤ 100) : (bWord b).length ≤ 100 := by
  unfold bWord
  split
  · decide
  · exact h
theorem fix_of {s : ByteArray} {l : Wd} (h : s.data.toList = l) : s = S l := by rw [← h, S_of]
set_option maxRecDepth 100000 in
set_option maxHeartbeats 16000000 in
theorem refEncode_ok (r : Rc) (hc : chkR r = 0) (w : World) :
    Calls Tryd.prog 11 #[.agg r.cells] w fun e w' => e = .returned (.tuple #[.string (S (lineR r)), .int .i64 0]) ∧ Below w.heap.size w w' := by
  have hck := refErr_any r (by have := (chk_ok hc).s.la; unfold maxLen; omega) (by have := (chk_ok hc).s.lb; unfold maxLen; omega)
  rw [hc] at hck
  obtain ⟨n, hl, ho, hln⟩ : ∃ n, Lr n r ∧ LnOk n ∧ lineR r = joinW 32 (wordsL n) := ⟨lnR r, lr_of hc, ln_ok hc, rfl⟩
  rw [hln]
  clear hln hc
  obtain ⟨kd, so, se, na, nb, st, un, cl, pt, la, tr, inb⟩ := n
  obtain ⟨s0, s1, s2, sa, sb, s5, s6, s7, s8, b9, s10, b11⟩ := r
  obtain ⟨k0, k1, k2, k3, k4, k5, k6, k7, k8, k9, k10, k11, -, -⟩ := hl
  simp only at k0 k1 k2 k3 k4 k5 k6 k7 k8 k9 k10 k11
  subst k0 k1 k2 k3 k4 k5 k6 k7 k8 k9 k10 k11
  have hal := ho.al; have hbl := ho.bl
  simp only [bsz] at hal hbl
  obtain ⟨nso, eso, zso, cso⟩ := num_call so ho.so
  obtain ⟨nse, ese, zse, cse⟩ := num_call se ho.se
  obtain ⟨nst, est, zst, cst⟩ := num_call st ho.st
  obtain ⟨nun, eun, zun, cun⟩ := num_call un ho.un
  obtain ⟨ncl, ecl, zcl, ccl⟩ := num_call cl ho.cl
  obtain ⟨npt, ept, zpt, cpt⟩ := num_call pt ho.pt
  obtain ⟨ntr, etr, ztr, ctr⟩ := num_call tr ho.tr
  obtain ⟨p0, f0, z0⟩ : ∃ p0 : ByteArray, p0.data.toList = letK kd ∧ p0.size ≤ 1 := ⟨S (letK kd), S_data _, by rw [S_size]; exact letK_len kd⟩
  obtain ⟨bw, fb, zb⟩ : ∃ bw : ByteArray, bw.data.toList = bWord sb.data.toList ∧ bw.size ≤ 100 := ⟨S (bWord sb.data.toList), S_data _, by rw [S_size]; exact bWord_len (by rw [bsz]; exact hbl)⟩
  -- WALK
  have l1 : (⟨#[32]⟩ : ByteArray).size = 1 := rfl
  have l6 : (⟨#[32, 112, 97, 114, 116, 32]⟩ : ByteArray).size = 6 := rfl
  have l5 : (⟨#[32, 108, 97, 115, 116]⟩ : ByteArray).size = 5 := rfl
  have l4 : (⟨#[32, 105, 110, 32]⟩ : ByteArray).size = 4 := rfl
  have l7 : (⟨#[32, 111, 117, 116, 32]⟩ : ByteArray).size = 5 := rfl
  obtain ⟨p1, f1, z1, a1, c1⟩ := add_ex p0 ⟨#[32]⟩ (by omega)
  obtain ⟨p2, f2, z2, a2, c2⟩ := add_ex p1 nso (by omega)
  obtain ⟨p3, f3, z3, a3, c3⟩ := add_ex p2 ⟨#[32]⟩ (by omega)
  obtain ⟨p4, f4, z4, a4, c4⟩ := add_ex p3 nse (by omega)
  obtain ⟨p5, f5, z5, a5, c5⟩ := add_ex p4 ⟨#[32]⟩ (by omega)
  obtain ⟨p6, f6, z6, a6, c6⟩ := add_ex p5 sa (by omega)
  obtain ⟨p7, f7, z7, a7, c7⟩ := add_ex p6 ⟨#[32]⟩ (by omega)
  obtain ⟨p8, f8, z8, a8, c8⟩ := add_ex p7 bw (by omega)
  obtain ⟨p9, f9, z9, a9, c9⟩ := add_ex p8 ⟨#[32]⟩ (by omega)
  obtain ⟨p10, f10, z10, a10, c10⟩ := add_ex p9 nst (by omega)
  obtain ⟨p11, f11, z11, a11, c11⟩ := add_ex p10 ⟨#[32]⟩ (by omega)
  obtain ⟨p12, f12, z12, a12, c12⟩ := add_ex p11 nun (by omega)
  have F12 : Hid (p12.data.toList = letK kd ++ suf [decDigits so, decDigits se, sa.data.toList, bWord sb.data.toList, decDigits st, decDigits un]) := Lib.hid (by
    rw [f12, f11, f10, f9, f8, f7, f6, f5, f4, f3, f2, f1, f0, eso, ese, fb, est, eun]; simp [suf])
  have Z12 : Hid (p12.size ≤ 800) := Lib.hid (by omega)
  have HP0 : Hid (p0 = S (letK kd)) := Lib.hid (fix_of f0)
  have HBW : Hid (bw = S (bWord sb.data.toList)) := Lib.hid (fix_of fb)
  have HNC := Lib.hid ecl; have HNP := Lib.hid ept; have HNT := Lib.hid etr
  have ZC := Lib.hid zcl; have ZP := Lib.hid zpt; have ZT := Lib.hid ztr
  have CSO := Lib.hid cso; have CSE := Lib.hid cse; have CST := Lib.hid cst; have CUN := Lib.hid cun; have CCL := Lib.hid ccl; have CPT := Lib.hid cpt; have CTR := Lib.hid ctr
  have HL1 := Lib.hid l1; have HL4 := Lib.hid l4; have HL5 := Lib.hid l5; have HL6 := Lib.hid l6; have HL7 := Lib.hid l7
  have HADD : Hid ((p0 ++ ⟨#[32]⟩ = p1 ∧ ¬ 9223372036854775807 < p0.size + 1) ∧ (p1 ++ nso = p2 ∧ ¬ 9223372036854775807 < p1.size + nso.size) ∧ (p2 ++ ⟨#[32]⟩ = p3 ∧ ¬ 9223372036854775807 < p2.size + 1) ∧ (p3 ++ nse = p4 ∧ ¬ 9223372036854775807 < p3.size + nse.size) ∧ (p4 ++ ⟨#[32]⟩ = p5 ∧ ¬ 9223372036854775807 < p4.size + 1) ∧ (p5 ++ sa = p6 ∧ ¬ 9223372036854775807 < p5.size + sa.size) ∧ (p6 ++ ⟨#[32]⟩ = p7 ∧ ¬ 9223372036854775807 < p6.size + 1) ∧ (p7 ++ bw = p8 ∧ ¬ 9223372036854775807 < p7.size + bw.size) ∧ (p8 ++ ⟨#[32]⟩ = p9 ∧ ¬ 9223372036854775807 < p8.size + 1) ∧ (p9 ++ nst = p10 ∧ ¬ 9223372036854775807 < p9.size + nst.size) ∧ (p10 ++ ⟨#[32]⟩ = p11 ∧ ¬ 9223372036854775807 < p10.size + 1) ∧ (p11 ++ nun = p12 ∧ ¬ 9223372036854775807 < p11.size + nun.size)) := Lib.hid ⟨⟨a1, c1⟩, ⟨a2, c2⟩, ⟨a3, c3⟩, ⟨a4, c4⟩, ⟨a5, c5⟩, ⟨a6, c6⟩, ⟨a7, c7⟩, ⟨a8, c8⟩, ⟨a9, c9⟩, ⟨a10, c10⟩, ⟨a11, c11⟩, ⟨a12, c12⟩⟩
  clear c1 c2 c3 c4 c5 c6 c7 c8 c9 c10 c11 c12 f0 f1 f2 f3 f4 f5 f6 f7 f8 f9 f10 f11 f12 eso ese est eun ecl ept etr fb z0 zb zso zse zst zun zcl zpt ztr z1 z2 z3 z4 z5 z6 z7 z8 z9 z10 z11 z12 l1 l4 l5 l6 l7 a1 a2 a3 a4 a5 a6 a7 a8 a9 a10 a11 a12 cso cse cst cun ccl cpt ctr
  obtain ⟨L, hL, hL0, hx, hLs⟩ := rec_world w ⟨so, se, kd, sa, sb, st, un, cl, pt, b9, tr, b11⟩
  have HB := Lib.hid hL0; have HX := Lib.hid hx; have HLS := Lib.hid hLs
  have HN := Lib.hid ho; have HCK := Lib.hid hck
  have HXX : Hid (∀ W, Below L.heap.size L W → RcB W w.heap.size ⟨so, se, kd, sa, sb, st, un, cl, pt, b9, tr, b11⟩) := Lib.hid fun W h => HX.out.below h (RcB.lt HX.out)
  clear hx hL0 hLs ho hck hal hbl
  simp only [Rc.cells] at hL HCK ⊢
  obtain ⟨k0, k1, k2, k3, k4, k5, k6, k7, k8, k9, k10, k11⟩ := HX.out.cells
  go_enter Tryd.func11, Tryd.ntmps11
  go_wp2_with (go_at_call 22; (with_reducible refine (HCK.out _).mono ?_); rintro e w1 ⟨rfl, hb1⟩; have HB1 := Lib.hid hb1; clear hb1; clear k0 k1 k2 k3 k4 k5 k6 k7 k8 k9 k10 k11; obtain ⟨k0, k1, k2, k3, k4, k5, k6, k7, k8, k9, k10, k11⟩ := (HXX.out _ HB1.out).cells)
  have g0 := fun d os => cell_regrown k0 d os
  have g1 := fun d os => cell_regrown k1 d os
  have g2 := fun d os => cell_regrown k2 d os
  have g3 := fun d os => cell_regrown k3 d os
  have g4 := fun d os => cell_regrown k4 d os
  have g5 := fun d os => cell_regrown k5 d os
  have g6 := fun d os => cell_regrown k6 d os
  have g7 := fun d os => cell_regrown k7 d os
  have g8 := fun d os => cell_regrown k8 d os
  have g9 := fun d os => cell_regrown k9 d os
  have g10 := fun d os => cell_regrown k10 d os
  have g11 := fun d os => cell_regrown k11 d os
  refine wp_region_quiet_below (by kernel_rfl) (by kernel_rfl) ?_
  iterate 4 (go_big_quiet_step (fail))
  refine wpQuiet_nil ?_
  intro W2 hw'
  have hb2 : Below L.heap.size L W2 := by
    obtain ⟨⟨dq, osq⟩, hw''⟩ := hw'
    rw [hw'']; exact HB1.out.trans ((below_regrown _ _ _).mono HB1.out.size)
  clear hw'
  have HB2 := Lib.hid hb2
  clear g0 g1 g2 g3 g4 g5 g6 g7 g8 g9 g10 g11
  clear hb2 k0 k1 k2 k3 k4 k5 k6 k7 k8 k9 k10 k11
  obtain ⟨k0, k1, k2, k3, k4, k5, k6, k7, k8, k9, k10, k11⟩ := (HXX.out _ HB2.out).cells
  go_upto_if 16 with fail
  go_cut [6] from 15 to 17 (fun s6 wx => W2 = wx ∧ s6 = .string bw)
  case first =>
    go_wp2_with fail
    · rename_i he
      go_meet
      have e0 : sb.data.toList = [] := by
        rw [ByteArray.toList_eq] at he
        exact List.isEmpty_iff.1 he
      case rel => exact ⟨rfl, by rw [HBW.out, e0]; rfl⟩
    · rename_i he
      go_meet
      have e0 : sb.data.toList ≠ [] := by
        rw [ByteArray.toList_eq] at he
        exact fun e => by rw [e] at he; cases he
      case rel => exact ⟨rfl, by rw [HBW.out]; unfold bWord; rw [if_neg e0, S_of]⟩
  case rest =>
    obtain ⟨rfl, rfl⟩ := hcut
    go_upto_region 7 with fail
    go_cut [7] from 8 (fun s7 wx => s7 = .string p12 ∧ Below L.heap.size L wx)
    case first =>
      rename_i hJ hK
      obtain ⟨⟨a1, c1⟩, ⟨a2, c2⟩, ⟨a3, c3⟩, ⟨a4, c4⟩, ⟨a5, c5⟩, ⟨a6, c6⟩, ⟨a7, c7⟩, ⟨a8, c8⟩, ⟨a9, c9⟩, ⟨a10, c10⟩, ⟨a11, c11⟩, ⟨a12, c12⟩⟩ := HADD.out
      have h0 := HN.out.kd0; have h1 := HN.out.kd1
      have e0 := HP0.out
      simp only at h0 h1
      have hkd : (kd = 1 ∧ (⟨#[118, 116, 100, 99]⟩ : ByteArray).extract 0 1 = p0) ∨ (kd = 2 ∧ (⟨#[118, 116, 100, 99]⟩ : ByteArray).extract 1 2 = p0) ∨ (kd = 3 ∧ (⟨#[118, 116, 100, 99]⟩ : ByteArray).extract 2 3 = p0) ∨ (kd = 4 ∧ (⟨#[118, 116, 100, 99]⟩ : ByteArray).extract 3 4 = p0) := by
        obtain rfl | rfl | rfl | rfl : kd = 1 ∨ kd = 2 ∨ kd = 3 ∨ kd = 4 := by omega
        · exact .inl ⟨rfl, ext_eq _ _ _ e0 rfl⟩
        · exact .inr (.inl ⟨rfl, ext_eq _ _ _ e0 rfl⟩)
        · exact .inr (.inr (.inl ⟨rfl, ext_eq _ _ _ e0 rfl⟩))
        · exact .inr (.inr (.inr ⟨rfl, ext_eq _ _ _ e0 rfl⟩))
      clear e0
      rcases hkd with ⟨rfl, e0⟩ | ⟨rfl, e0⟩ | ⟨rfl, e0⟩ | ⟨rfl, e0⟩
      all_goals
        clear h0 h1
        have g0 := fun d os => cell_regrown k0 d os
        have g1 := fun d os => cell_regrown k1 d os
        have g2 := fun d os => cell_regrown k2 d os
        have g3 := fun d os => cell_regrown k3 d os
        have g4 := fun d os => cell_regrown k4 d os
        have g5 := fun d os => cell_regrown k5 d os
        have g6 := fun d os => cell_regrown k6 d os
        have g7 := fun d os => cell_regrown k7 d os
        have g8 := fun d os => cell_regrown k8 d os
        have g9 := fun d os => cell_regrown k9 d os
        have g10 := fun d os => cell_regrown k10 d os
        have g11 := fun d os => cell_regrown k11 d os
        refine wp_region_quiet_below (by kernel_rfl) (by kernel_rfl) ?_
        iterate 35 (go_big_quiet_step (first | (with_reducible exact Calls.regrown_of (CSO.out _)) | (with_reducible exact Calls.regrown_of (CSE.out _)) | (with_reducible exact Calls.regrown_of (CST.out _)) | (with_reducible exact Calls.regrown_of (CUN.out _))))
        refine wpQuiet_nil ?_
        intro W3 hw'
        have hb3 : Below L.heap.size L W3 := by
          obtain ⟨⟨dq, osq⟩, hw''⟩ := hw'
          rw [hw'']; exact HB2.out.trans ((below_regrown _ _ _).mono HB2.out.size)
        clear hw'
        refine hK _ _ ?_
        go_meet
        case rel => exact ⟨rfl, hb3⟩
    case rest =>
      obtain ⟨rfl, hb3⟩ := hcut
      have HB3 := Lib.hid hb3
      clear hb3 k0 k1 k2 k3 k4 k5 k6 k7 k8 k9 k10 k11
      obtain ⟨k0, k1, k2, k3, k4, k5, k6, k7, k8, k9, k10, k11⟩ := (HXX.out _ HB3.out).cells
      have hpart : (pt = 0 ∧ b9 = false) ∨ (0 < pt ∧ b9 = false) ∨ (0 < pt ∧ b9 = true) := by
        have h := HN.out.p0
        simp only at h
        rcases Nat.eq_zero_or_pos pt with h2 | h2
        · exact .inl ⟨h2, (h h2).2⟩
        · cases b9 <;> simp [h2]
      have htrunk : (tr = 0 ∧ b11 = false) ∨ (0 < tr ∧ b11 = true) ∨ (0 < tr ∧ b11 = false) := by
        have h := HN.out.t0
        simp only at h
        rcases Nat.eq_zero_or_pos tr with h2 | h2
        · exact .inl ⟨h2, h h2⟩
        · cases b11 <;> simp [h2]
      have hz12 := Z12.out; have hzc := ZC.out; have hzp := ZP.out; have hzt := ZT.out; have l1 := HL1.out; have l4 := HL4.out; have l5 := HL5.out; have l6 := HL6.out; have l7 := HL7.out
      have HF12 := F12; have HNC1 := HNC
      rcases hpart with ⟨hp, rfl⟩ | ⟨hp, rfl⟩ | ⟨hp, rfl⟩
      · rcases htrunk with ⟨ht, rfl⟩ | ⟨ht, rfl⟩ | ⟨ht, rfl⟩
        · have HF : Hid (p12 = S (joinW 32 (wordsL ⟨kd, so, se, sa.data.toList, sb.data.toList, st, un, cl, pt, false, tr, false⟩))) := Lib.hid (by
            apply fix_of
            have e : wordsL ⟨kd, so, se, sa.data.toList, sb.data.toList, st, un, cl, pt, false, tr, false⟩ = letK kd :: ([decDigits so, decDigits se, sa.data.toList, bWord sb.data.toList, decDigits st, decDigits un] ++ ([] ++ [])) := by
              have hpn : pt = 0 := by omega
              have htn : tr = 0 := by omega
              simp [wordsL, partWs, trunkWs, hpn, htn]
            rw [e, join_suf, suf_app]
            rw [F12.out]
            simp [suf])
          have d0 : decide ((0 : Int) < (pt : Int)) = false := decide_eq_false (by omega)
          have d1 : decide ((0 : Int) < (tr : Int)) = false := decide_eq_false (by omega)
          have d2 : decide (0 < pt) = false := decide_eq_false (by omega)
          have d3 : decide (0 < tr) = false := decide_eq_false (by omega)
          clear hz12 hzc hzp hzt l1 l4 l5 l6 l7 hp ht 
          go_wp2_with fail
          go_ret2
          exact ⟨by rw [HF.out] <;> rfl, HB.out.trans (HB3.out.mono HB.out.size)⟩
        · obtain ⟨p13, f13, z13, a13, c13⟩ := add_ex p12 ⟨#[32, 105, 110, 32]⟩ (by omega)
          replace c13 : ¬ 9223372036854775807 < p12.size + 4 := c13
          obtain ⟨p14, f14, z14, a14, c14⟩ := add_ex p13 ntr (by omega)
          have HF : Hid (p14 = S (joinW 32 (wordsL ⟨kd, so, se, sa.data.toList, sb.data.toList, st, un, cl, pt, false, tr, true⟩))) := Lib.hid (by
            apply fix_of
            have e : wordsL ⟨kd, so, se, sa.data.toList, sb.data.toList, st, un, cl, pt, false, tr, true⟩ = letK kd :: ([decDigits so, decDigits se, sa.data.toList, bWord sb.data.toList, decDigits st, decDigits un] ++ ([] ++ [wIn, decDigits tr])) := by
              have hpn : pt = 0 := by omega
              have htn : ¬ tr = 0 := by omega
              simp [wordsL, partWs, trunkWs, hpn, htn]
            rw [e, join_suf, suf_app]
            rw [f14, f13, F12.out, HNT.out]
            simp [suf, wIn])
          have d0 : decide ((0 : Int) < (pt : Int)) = false := decide_eq_false (by omega)
          have d1 : decide ((0 : Int) < (tr : Int)) = true := decide_eq_true (by omega)
          have d2 : decide (0 < pt) = false := decide_eq_false (by omega)
          have d3 : decide (0 < tr) = true := decide_eq_true (by omega)
          clear hz12 hzc hzp hzt l1 l4 l5 l6 l7 hp ht f13 z13 f14 z14
          go_wp2_with (go_at_call 23; (with_reducible refine (CTR.out _).mono ?_); rintro e w5 ⟨rfl, hb5⟩; clear k0 k1 k2 k3 k4 k5 k6 k7 k8 k9 k10 k11; obtain ⟨k0, k1, k2, k3, k4, k5, k6, k7, k8, k9, k10, k11⟩ := (HXX.out _ (HB3.out.trans (hb5.mono HB3.out.size))).cells)
          go_ret2
          exact ⟨by rw [HF.out] <;> rfl, HB.out.trans ((HB3.out.trans (hb5.mono HB3.out.size)).mono HB.out.size)⟩
        · obtain ⟨p13, f13, z13, a13, c13⟩ := add_ex p12 ⟨#[32, 111, 117, 116, 32]⟩ (by omega)
          replace c13 : ¬ 9223372036854775807 < p12.size + 5 := c13
          obtain ⟨p14, f14, z14, a14, c14⟩ := add_ex p13 ntr (by omega)
          have HF : Hid (p14 = S (joinW 32 (wordsL ⟨kd, so, se, sa.data.toList, sb.data.toList, st, un, cl, pt, false, tr, false⟩))) := Lib.hid (by
            apply fix_of
            have e : wordsL ⟨kd, so, se, sa.data.toList, sb.data.toList, st, un, cl, pt, false, tr, false⟩ = letK kd :: ([decDigits so, decDigits se, sa.data.toList, bWord sb.data.toList, decDigits st, decDigits un] ++ ([] ++ [wOut, decDigits tr])) := by
              have hpn : pt = 0 := by omega
              have htn : ¬ tr = 0 := by omega
              simp [wordsL, partWs, trunkWs, hpn, htn]
            rw [e, join_suf, suf_app]
            rw [f14, f13, F12.out, HNT.out]
            simp [suf, wOut])
          have d0 : decide ((0 : Int) < (pt : Int)) = false := decide_eq_false (by omega)
          have d1 : decide ((0 : Int) < (tr : Int)) = true := decide_eq_true (by omega)
          have d2 : decide (0 < pt) = false := decide_eq_false (by omega)
          have d3 : decide (0 < tr) = true := decide_eq_true (by omega)
          clear hz12 hzc hzp hzt l1 l4 l5 l6 l7 hp ht f13 z13 f14 z14
          go_wp2_with (go_at_call 23; (with_reducible refine (CTR.out _).mono ?_); rintro e w5 ⟨rfl, hb5⟩)
          go_ret2
          exact ⟨by rw [HF.out] <;> rfl, HB.out.trans ((HB3.out.trans (hb5.mono HB3.out.size)).mono HB.out.size)⟩
      · rcases htrunk with ⟨ht, rfl⟩ | ⟨ht, rfl⟩ | ⟨ht, rfl⟩
        · obtain ⟨p13, f13, z13, a13, c13⟩ := add_ex p12 ⟨#[32, 112, 97, 114, 116, 32]⟩ (by omega)
          replace c13 : ¬ 9223372036854775807 < p12.size + 6 := c13
          obtain ⟨p14, f14, z14, a14, c14⟩ := add_ex p13 ncl (by omega)
          obtain ⟨p15, f15, z15, a15, c15⟩ := add_ex p14 ⟨#[32]⟩ (by omega)
          replace c15 : ¬ 9223372036854775807 < p14.size + 1 := c15
          obtain ⟨p16, f16, z16, a16, c16⟩ := add_ex p15 npt (by omega)
          have HF : Hid (p16 = S (joinW 32 (wordsL ⟨kd, so, se, sa.data.toList, sb.data.toList, st, un, cl, pt, false, tr, false⟩))) := Lib.hid (by
            apply fix_of
            have e : wordsL ⟨kd, so, se, sa.data.toList, sb.data.toList, st, un, cl, pt, false, tr, false⟩ = letK kd :: ([decDigits so, decDigits se, sa.data.toList, bWord sb.data.toList, decDigits st, decDigits un] ++ ([wPart, decDigits cl, decDigits pt] ++ [])) := by
              have hpn : ¬ pt = 0 := by omega
              have htn : tr = 0 := by omega
              simp [wordsL, partWs, trunkWs, hpn, htn]
            rw [e, join_suf, suf_app]
            rw [f16, f15, f14, f13, F12.out, HNC.out, HNP.out]
            simp [suf, wPart])
          have d0 : decide ((0 : Int) < (pt : Int)) = true := decide_eq_true (by omega)
          have d1 : decide ((0 : Int) < (tr : Int)) = false := decide_eq_false (by omega)
          have d2 : decide (0 < pt) = true := decide_eq_true (by omega)
          have d3 : decide (0 < tr) = false := decide_eq_false (by omega)
          clear hz12 hzc hzp hzt l1 l4 l5 l6 l7 hp ht f13 z13 f14 z14 f15 z15 f16 z16
          go_wp2_with fail
          have g0 := fun d os => cell_regrown k0 d os
          have g1 := fun d os => cell_regrown k1 d os
          have g2 := fun d os => cell_regrown k2 d os
          have g3 := fun d os => cell_regrown k3 d os
          have g4 := fun d os => cell_regrown k4 d os
          have g5 := fun d os => cell_regrown k5 d os
          have g6 := fun d os => cell_regrown k6 d os
          have g7 := fun d os => cell_regrown k7 d os
          have g8 := fun d os => cell_regrown k8 d os
          have g9 := fun d os => cell_regrown k9 d os
          have g10 := fun d os => cell_regrown k10 d os
          have g11 := fun d os => cell_regrown k11 d os
          refine wp_region_quiet_below (by kernel_rfl) (by kernel_rfl) ?_
          iterate 12 (go_big_quiet_step (first | (with_reducible exact Calls.regrown_of (CCL.out _)) | (with_reducible exact Calls.regrown_of (CPT.out _))))
          refine wpQuiet_nil ?_
          intro W4 hw'
          have hb4 : Below L.heap.size L W4 := by
            obtain ⟨⟨dq, osq⟩, hw''⟩ := hw'
            rw [hw'']; exact HB3.out.trans ((below_regrown _ _ _).mono HB3.out.size)
          clear hw'
          have HB4 := Lib.hid hb4
          clear g0 g1 g2 g3 g4 g5 g6 g7 g8 g9 g10 g11
          clear hb4 k0 k1 k2 k3 k4 k5 k6 k7 k8 k9 k10 k11
          obtain ⟨k0, k1, k2, k3, k4, k5, k6, k7, k8, k9, k10, k11⟩ := (HXX.out _ HB4.out).cells
          go_wp2_with fail
          go_ret2
          exact ⟨by rw [HF.out] <;> rfl, HB.out.trans (HB4.out.mono HB.out.size)⟩
        · obtain ⟨p13, f13, z13, a13, c13⟩ := add_ex p12 ⟨#[32, 112, 97, 114, 116, 32]⟩ (by omega)
          replace c13 : ¬ 9223372036854775807 < p12.size + 6 := c13
          obtain ⟨p14, f14, z14, a14, c14⟩ := add_ex p13 ncl (by omega)
          obtain ⟨p15, f15, z15, a15, c15⟩ := add_ex p14 ⟨#[32]⟩ (by omega)
          replace c15 : ¬ 9223372036854775807 < p14.size + 1 := c15
          obtain ⟨p16, f16, z16, a16, c16⟩ := add_ex p15 npt (by omega)
          obtain ⟨p17, f17, z17, a17, c17⟩ := add_ex p16 ⟨#[32, 105, 110, 32]⟩ (by omega)
          replace c17 : ¬ 9223372036854775807 < p16.size + 4 := c17
          obtain ⟨p18, f18, z18, a18, c18⟩ := add_ex p17 ntr (by omega)
          have HF : Hid (p18 = S (joinW 32 (wordsL ⟨kd, so, se, sa.data.toList, sb.data.toList, st, un, cl, pt, false, tr, true⟩))) := Lib.hid (by
            apply fix_of
            have e : wordsL ⟨kd, so, se, sa.data.toList, sb.data.toList, st, un, cl, pt, false, tr, true⟩ = letK kd :: ([decDigits so, decDigits se, sa.data.toList, bWord sb.data.toList, decDigits st, decDigits un] ++ ([wPart, decDigits cl, decDigits pt] ++ [wIn, decDigits tr])) := by
              have hpn : ¬ pt = 0 := by omega
              have htn : ¬ tr = 0 := by omega
              simp [wordsL, partWs, trunkWs, hpn, htn]
            rw [e, join_suf, suf_app]
            rw [f18, f17, f16, f15, f14, f13, F12.out, HNC.out, HNP.out, HNT.out]
            simp [suf, wPart, wIn])
          have d0 : decide ((0 : Int) < (pt : Int)) = true := decide_eq_true (by omega)
          have d1 : decide ((0 : Int) < (tr : Int)) = true := decide_eq_true (by omega)
          have d2 : decide (0 < pt) = true := decide_eq_true (by omega)
          have d3 : decide (0 < tr) = true := decide_eq_true (by omega)
          clear hz12 hzc hzp hzt l1 l4 l5 l6 l7 hp ht f13 z13 f14 z14 f15 z15 f16 z16 f17 z17 f18 z18
          go_wp2_with fail
          have g0 := fun d os => cell_regrown k0 d os
          have g1 := fun d os => cell_regrown k1 d os
          have g2 := fun d os => cell_regrown k2 d os
          have g3 := fun d os => cell_regrown k3 d os
          have g4 := fun d os => cell_regrown k4 d os
          have g5 := fun d os => cell_regrown k5 d os
          have g6 := fun d os => cell_regrown k6 d os
          have g7 := fun d os => cell_regrown k7 d os
          have g8 := fun d os => cell_regrown k8 d os
          have g9 := fun d os => cell_regrown k9 d os
          have g10 := fun d os => cell_regrown k10 d os
          have g11 := fun d os => cell_regrown k11 d os
          refine wp_region_quiet_below (by kernel_rfl) (by kernel_rfl) ?_
          iterate 12 (go_big_quiet_step (first | (with_reducible exact Calls.regrown_of (CCL.out _)) | (with_reducible exact Calls.regrown_of (CPT.out _))))
          refine wpQuiet_nil ?_
          intro W4 hw'
          have hb4 : Below L.heap.size L W4 := by
            obtain ⟨⟨dq, osq⟩, hw''⟩ := hw'
            rw [hw'']; exact HB3.out.trans ((below_regrown _ _ _).mono HB3.out.size)
          clear hw'
          have HB4 := Lib.hid hb4
          clear g0 g1 g2 g3 g4 g5 g6 g7 g8 g9 g10 g11
          clear hb4 k0 k1 k2 k3 k4 k5 k6 k7 k8 k9 k10 k11
          obtain ⟨k0, k1, k2, k3, k4, k5, k6, k7, k8, k9, k10, k11⟩ := (HXX.out _ HB4.out).cells
          go_wp2_with (go_at_call 23; (with_reducible refine (CTR.out _).mono ?_); rintro e w5 ⟨rfl, hb5⟩; clear k0 k1 k2 k3 k4 k5 k6 k7 k8 k9 k10 k11; obtain ⟨k0, k1, k2, k3, k4, k5, k6, k7, k8, k9, k10, k11⟩ := (HXX.out _ (HB4.out.trans (hb5.mono HB4.out.size))).cells)
          go_ret2
          exact ⟨by rw [HF.out] <;> rfl, HB.out.trans ((HB4.out.trans (hb5.mono HB4.out.size)).mono HB.out.size)⟩
        · obtain ⟨p13, f13, z13, a13, c13⟩ := add_ex p12 ⟨#[32, 112, 97, 114, 116, 32]⟩ (by omega)
          replace c13 : ¬ 9223372036854775807 < p12.size + 6 := c13
          obtain ⟨p14, f14, z14, a14, c14⟩ := add_ex p13 ncl (by omega)
          obtain ⟨p15, f15, z15, a15, c15⟩ := add_ex p14 ⟨#[32]⟩ (by omega)
          replace c15 : ¬ 9223372036854775807 < p14.size + 1 := c15
          obtain ⟨p16, f16, z16, a16, c16⟩ := add_ex p15 npt (by omega)
          obtain ⟨p17, f17, z17, a17, c17⟩ := add_ex p16 ⟨#[32, 111, 117, 116, 32]⟩ (by omega)
          replace c17 : ¬ 9223372036854775807 < p16.size + 5 := c17
          obtain ⟨p18, f18, z18, a18, c18⟩ := add_ex p17 ntr (by omega)
          have HF : Hid (p18 = S (joinW 32 (wordsL ⟨kd, so, se, sa.data.toList, sb.data.toList, st, un, cl, pt, false, tr, false⟩))) := Lib.hid (by
            apply fix_of
            have e : wordsL ⟨kd, so, se, sa.data.toList, sb.data.toList, st, un, cl, pt, false, tr, false⟩ = letK kd :: ([decDigits so, decDigits se, sa.data.toList, bWord sb.data.toList, decDigits st, decDigits un] ++ ([wPart, decDigits cl, decDigits pt] ++ [wOut, decDigits tr])) := by
              have hpn : ¬ pt = 0 := by omega
              have htn : ¬ tr = 0 := by omega
              simp [wordsL, partWs, trunkWs, hpn, htn]
            rw [e, join_suf, suf_app]
            rw [f18, f17, f16, f15, f14, f13, F12.out, HNC.out, HNP.out, HNT.out]
            simp [suf, wPart, wOut])
          have d0 : decide ((0 : Int) < (pt : Int)) = true := decide_eq_true (by omega)
          have d1 : decide ((0 : Int) < (tr : Int)) = true := decide_eq_true (by omega)
          have d2 : decide (0 < pt) = true := decide_eq_true (by omega)
          have d3 : decide (0 < tr) = true := decide_eq_true (by omega)
          clear hz12 hzc hzp hzt l1 l4 l5 l6 l7 hp ht f13 z13 f14 z14 f15 z15 f16 z16 f17 z17 f18 z18
          go_wp2_with fail
          have g0 := fun d os => cell_regrown k0 d os
          have g1 := fun d os => cell_regrown k1 d os
          have g2 := fun d os => cell_regrown k2 d os
          have g3 := fun d os => cell_regrown k3 d os
          have g4 := fun d os => cell_regrown k4 d os
          have g5 := fun d os => cell_regrown k5 d os
          have g6 := fun d os => cell_regrown k6 d os
          have g7 := fun d os => cell_regrown k7 d os
          have g8 := fun d os => cell_regrown k8 d os
          have g9 := fun d os => cell_regrown k9 d os
          have g10 := fun d os => cell_regrown k10 d os
          have g11 := fun d os => cell_regrown k11 d os
          refine wp_region_quiet_below (by kernel_rfl) (by kernel_rfl) ?_
          iterate 12 (go_big_quiet_step (first | (with_reducible exact Calls.regrown_of (CCL.out _)) | (with_reducible exact Calls.regrown_of (CPT.out _))))
          refine wpQuiet_nil ?_
          intro W4 hw'
          have hb4 : Below L.heap.size L W4 := by
            obtain ⟨⟨dq, osq⟩, hw''⟩ := hw'
            rw [hw'']; exact HB3.out.trans ((below_regrown _ _ _).mono HB3.out.size)
          clear hw'
          have HB4 := Lib.hid hb4
          clear g0 g1 g2 g3 g4 g5 g6 g7 g8 g9 g10 g11
          clear hb4 k0 k1 k2 k3 k4 k5 k6 k7 k8 k9 k10 k11
          obtain ⟨k0, k1, k2, k3, k4, k5, k6, k7, k8, k9, k10, k11⟩ := (HXX.out _ HB4.out).cells
          go_wp2_with (go_at_call 23; (with_reducible refine (CTR.out _).mono ?_); rintro e w5 ⟨rfl, hb5⟩)
          go_ret2
          exact ⟨by rw [HF.out] <;> rfl, HB.out.trans ((HB4.out.trans (hb5.mono HB4.out.size)).mono HB.out.size)⟩
      · rcases htrunk with ⟨ht, rfl⟩ | ⟨ht, rfl⟩ | ⟨ht, rfl⟩
        · obtain ⟨p13, f13, z13, a13, c13⟩ := add_ex p12 ⟨#[32, 112, 97, 114, 116, 32]⟩ (by omega)
          replace c13 : ¬ 9223372036854775807 < p12.size + 6 := c13
          obtain ⟨p14, f14, z14, a14, c14⟩ := add_ex p13 ncl (by omega)
          obtain ⟨p15, f15, z15, a15, c15⟩ := add_ex p14 ⟨#[32]⟩ (by omega)
          replace c15 : ¬ 9223372036854775807 < p14.size + 1 := c15
          obtain ⟨p16, f16, z16, a16, c16⟩ := add_ex p15 npt (by omega)
          obtain ⟨p17, f17, z17, a17, c17⟩ := add_ex p16 ⟨#[32, 108, 97, 115, 116]⟩ (by omega)
          replace c17 : ¬ 9223372036854775807 < p16.size + 5 := c17
          have HF : Hid (p17 = S (joinW 32 (wordsL ⟨kd, so, se, sa.data.toList, sb.data.toList, st, un, cl, pt, true, tr, false⟩))) := Lib.hid (by
            apply fix_of
            have e : wordsL ⟨kd, so, se, sa.data.toList, sb.data.toList, st, un, cl, pt, true, tr, false⟩ = letK kd :: ([decDigits so, decDigits se, sa.data.toList, bWord sb.data.toList, decDigits st, decDigits un] ++ ([wPart, decDigits cl, decDigits pt, wLast] ++ [])) := by
              have hpn : ¬ pt = 0 := by omega
              have htn : tr = 0 := by omega
              simp [wordsL, partWs, trunkWs, hpn, htn]
            rw [e, join_suf, suf_app]
            rw [f17, f16, f15, f14, f13, F12.out, HNC.out, HNP.out]
            simp [suf, wPart, wLast])
          have d0 : decide ((0 : Int) < (pt : Int)) = true := decide_eq_true (by omega)
          have d1 : decide ((0 : Int) < (tr : Int)) = false := decide_eq_false (by omega)
          have d2 : decide (0 < pt) = true := decide_eq_true (by omega)
          have d3 : decide (0 < tr) = false := decide_eq_false (by omega)
          clear hz12 hzc hzp hzt l1 l4 l5 l6 l7 hp ht f13 z13 f14 z14 f15 z15 f16 z16 f17 z17
          go_wp2_with fail
          have g0 := fun d os => cell_regrown k0 d os
          have g1 := fun d os => cell_regrown k1 d os
          have g2 := fun d os => cell_regrown k2 d os
          have g3 := fun d os => cell_regrown k3 d os
          have g4 := fun d os => cell_regrown k4 d os
          have g5 := fun d os => cell_regrown k5 d os
          have g6 := fun d os => cell_regrown k6 d os
          have g7 := fun d os => cell_regrown k7 d os
          have g8 := fun d os => cell_regrown k8 d os
          have g9 := fun d os => cell_regrown k9 d os
          have g10 := fun d os => cell_regrown k10 d os
          have g11 := fun d os => cell_regrown k11 d os
          refine wp_region_quiet_below (by kernel_rfl) (by kernel_rfl) ?_
          iterate 12 (go_big_quiet_step (first | (with_reducible exact Calls.regrown_of (CCL.out _)) | (with_reducible exact Calls.regrown_of (CPT.out _))))
          refine wpQuiet_nil ?_
          intro W4 hw'
          have hb4 : Below L.heap.size L W4 := by
            obtain ⟨⟨dq, osq⟩, hw''⟩ := hw'
            rw [hw'']; exact HB3.out.trans ((below_regrown _ _ _).mono HB3.out.size)
          clear hw'
          have HB4 := Lib.hid hb4
          clear g0 g1 g2 g3 g4 g5 g6 g7 g8 g9 g10 g11
          clear hb4 k0 k1 k2 k3 k4 k5 k6 k7 k8 k9 k10 k11
          obtain ⟨k0, k1, k2, k3, k4, k5, k6, k7, k8, k9, k10, k11⟩ := (HXX.out _ HB4.out).cells
          go_wp2_with fail
          go_ret2
          exact ⟨by rw [HF.out] <;> rfl, HB.out.trans (HB4.out.mono HB.out.size)⟩
        · obtain ⟨p13, f13, z13, a13, c13⟩ := add_ex p12 ⟨#[32, 112, 97, 114, 116, 32]⟩ (by omega)
          replace c13 : ¬ 9223372036854775807 < p12.size + 6 := c13
          obtain ⟨p14, f14, z14, a14, c14⟩ := add_ex p13 ncl (by omega)
          obtain ⟨p15, f15, z15, a15, c15⟩ := add_ex p14 ⟨#[32]⟩ (by omega)
          replace c15 : ¬ 9223372036854775807 < p14.size + 1 := c15
          obtain ⟨p16, f16, z16, a16, c16⟩ := add_ex p15 npt (by omega)
          obtain ⟨p17, f17, z17, a17, c17⟩ := add_ex p16 ⟨#[32, 108, 97, 115, 116]⟩ (by omega)
          replace c17 : ¬ 9223372036854775807 < p16.size + 5 := c17
          obtain ⟨p18, f18, z18, a18, c18⟩ := add_ex p17 ⟨#[32, 105, 110, 32]⟩ (by omega)
          replace c18 : ¬ 9223372036854775807 < p17.size + 4 := c18
          obtain ⟨p19, f19, z19, a19, c19⟩ := add_ex p18 ntr (by omega)
          have HF : Hid (p19 = S (joinW 32 (wordsL ⟨kd, so, se, sa.data.toList, sb.data.toList, st, un, cl, pt, true, tr, true⟩))) := Lib.hid (by
            apply fix_of
            have e : wordsL ⟨kd, so, se, sa.data.toList, sb.data.toList, st, un, cl, pt, true, tr, true⟩ = letK kd :: ([decDigits so, decDigits se, sa.data.toList, bWord sb.data.toList, decDigits st, decDigits un] ++ ([wPart, decDigits cl, decDigits pt, wLast] ++ [wIn, decDigits tr])) := by
              have hpn : ¬ pt = 0 := by omega
              have htn : ¬ tr = 0 := by omega
              simp [wordsL, partWs, trunkWs, hpn, htn]
            rw [e, join_suf, suf_app]
            rw [f19, f18, f17, f16, f15, f14, f13, F12.out, HNC.out, HNP.out, HNT.out]
            simp [suf, wPart, wLast, wIn])
          have d0 : decide ((0 : Int) < (pt : Int)) = true := decide_eq_true (by omega)
          have d1 : decide ((0 : Int) < (tr : Int)) = true := decide_eq_true (by omega)
          have d2 : decide (0 < pt) = true := decide_eq_true (by omega)
          have d3 : decide (0 < tr) = true := decide_eq_true (by omega)
          clear hz12 hzc hzp hzt l1 l4 l5 l6 l7 hp ht f13 z13 f14 z14 f15 z15 f16 z16 f17 z17 f18 z18 f19 z19
          go_wp2_with fail
          have g0 := fun d os => cell_regrown k0 d os
          have g1 := fun d os => cell_regrown k1 d os
          have g2 := fun d os => cell_regrown k2 d os
          have g3 := fun d os => cell_regrown k3 d os
          have g4 := fun d os => cell_regrown k4 d os
          have g5 := fun d os => cell_regrown k5 d os
          have g6 := fun d os => cell_regrown k6 d os
          have g7 := fun d os => cell_regrown k7 d os
          have g8 := fun d os => cell_regrown k8 d os
          have g9 := fun d os => cell_regrown k9 d os
          have g10 := fun d os => cell_regrown k10 d os
          have g11 := fun d os => cell_regrown k11 d os
          refine wp_region_quiet_below (by kernel_rfl) (by kernel_rfl) ?_
          iterate 12 (go_big_quiet_step (first | (with_reducible exact Calls.regrown_of (CCL.out _)) | (with_reducible exact Calls.regrown_of (CPT.out _))))
          refine wpQuiet_nil ?_
          intro W4 hw'
          have hb4 : Below L.heap.size L W4 := by
            obtain ⟨⟨dq, osq⟩, hw''⟩ := hw'
            rw [hw'']; exact HB3.out.trans ((below_regrown _ _ _).mono HB3.out.size)
          clear hw'
          have HB4 := Lib.hid hb4
          clear g0 g1 g2 g3 g4 g5 g6 g7 g8 g9 g10 g11
          clear hb4 k0 k1 k2 k3 k4 k5 k6 k7 k8 k9 k10 k11
          obtain ⟨k0, k1, k2, k3, k4, k5, k6, k7, k8, k9, k10, k11⟩ := (HXX.out _ HB4.out).cells
          go_wp2_with (go_at_call 23; (with_reducible refine (CTR.out _).mono ?_); rintro e w5 ⟨rfl, hb5⟩; clear k0 k1 k2 k3 k4 k5 k6 k7 k8 k9 k10 k11; obtain ⟨k0, k1, k2, k3, k4, k5, k6, k7, k8, k9, k10, k11⟩ := (HXX.out _ (HB4.out.trans (hb5.mono HB4.out.size))).cells)
          go_ret2
          exact ⟨by rw [HF.out] <;> rfl, HB.out.trans ((HB4.out.trans (hb5.mono HB4.out.size)).mono HB.out.size)⟩
        · obtain ⟨p13, f13, z13, a13, c13⟩ := add_ex p12 ⟨#[32, 112, 97, 114, 116, 32]⟩ (by omega)
          replace c13 : ¬ 9223372036854775807 < p12.size + 6 := c13
          obtain ⟨p14, f14, z14, a14, c14⟩ := add_ex p13 ncl (by omega)
          obtain ⟨p15, f15, z15, a15, c15⟩ := add_ex p14 ⟨#[32]⟩ (by omega)
          replace c15 : ¬ 9223372036854775807 < p14.size + 1 := c15
          obtain ⟨p16, f16, z16, a16, c16⟩ := add_ex p15 npt (by omega)
          obtain ⟨p17, f17, z17, a17, c17⟩ := add_ex p16 ⟨#[32, 108, 97, 115, 116]⟩ (by omega)
          replace c17 : ¬ 9223372036854775807 < p16.size + 5 := c17
          obtain ⟨p18, f18, z18, a18, c18⟩ := add_ex p17 ⟨#[32, 111, 117, 116, 32]⟩ (by omega)
          replace c18 : ¬ 9223372036854775807 < p17.size + 5 := c18
          obtain ⟨p19, f19, z19, a19, c19⟩ := add_ex p18 ntr (by omega)
          have HF : Hid (p19 = S (joinW 32 (wordsL ⟨kd, so, se, sa.data.toList, sb.data.toList, st, un, cl, pt, true, tr, false⟩))) := Lib.hid (by
            apply fix_of
            have e : wordsL ⟨kd, so, se, sa.data.toList, sb.data.toList, st, un, cl, pt, true, tr, false⟩ = letK kd :: ([decDigits so, decDigits se, sa.data.toList, bWord sb.data.toList, decDigits st, decDigits un] ++ ([wPart, decDigits cl, decDigits pt, wLast] ++ [wOut, decDigits tr])) := by
              have hpn : ¬ pt = 0 := by omega
              have htn : ¬ tr = 0 := by omega
              simp [wordsL, partWs, trunkWs, hpn, htn]
            rw [e, join_suf, suf_app]
            rw [f19, f18, f17, f16, f15, f14, f13, F12.out, HNC.out, HNP.out, HNT.out]
            simp [suf, wPart, wLast, wOut])
          have d0 : decide ((0 : Int) < (pt : Int)) = true := decide_eq_true (by omega)
          have d1 : decide ((0 : Int) < (tr : Int)) = true := decide_eq_true (by omega)
          have d2 : decide (0 < pt) = true := decide_eq_true (by omega)
          have d3 : decide (0 < tr) = true := decide_eq_true (by omega)
          clear hz12 hzc hzp hzt l1 l4 l5 l6 l7 hp ht f13 z13 f14 z14 f15 z15 f16 z16 f17 z17 f18 z18 f19 z19
          go_wp2_with fail
          have g0 := fun d os => cell_regrown k0 d os
          have g1 := fun d os => cell_regrown k1 d os
          have g2 := fun d os => cell_regrown k2 d os
          have g3 := fun d os => cell_regrown k3 d os
          have g4 := fun d os => cell_regrown k4 d os
          have g5 := fun d os => cell_regrown k5 d os
          have g6 := fun d os => cell_regrown k6 d os
          have g7 := fun d os => cell_regrown k7 d os
          have g8 := fun d os => cell_regrown k8 d os
          have g9 := fun d os => cell_regrown k9 d os
          have g10 := fun d os => cell_regrown k10 d os
          have g11 := fun d os => cell_regrown k11 d os
          refine wp_region_quiet_below (by kernel_rfl) (by kernel_rfl) ?_
          iterate 12 (go_big_quiet_step (first | (with_reducible exact Calls.regrown_of (CCL.out _)) | (with_reducible exact Calls.regrown_of (CPT.out _))))
          refine wpQuiet_nil ?_
          intro W4 hw'
          have hb4 : Below L.heap.size L W4 := by
            obtain ⟨⟨dq, osq⟩, hw''⟩ := hw'
            rw [hw'']; exact HB3.out.trans ((below_regrown _ _ _).mono HB3.out.size)
          clear hw'
          have HB4 := Lib.hid hb4
          clear g0 g1 g2 g3 g4 g5 g6 g7 g8 g9 g10 g11
          clear hb4 k0 k1 k2 k3 k4 k5 k6 k7 k8 k9 k10 k11
          obtain ⟨k0, k1, k2, k3, k4, k5, k6, k7, k8, k9, k10, k11⟩ := (HXX.out _ HB4.out).cells
          go_wp2_with (go_at_call 23; (with_reducible refine (CTR.out _).mono ?_); rintro e w5 ⟨rfl, hb5⟩)
          go_ret2
          exact ⟨by rw [HF.out] <;> rfl, HB.out.trans ((HB4.out.trans (hb5.mono HB4.out.size)).mono HB.out.size)⟩
end Go.Proofs.YtokdfdinnaghmaaDoor.Tx
