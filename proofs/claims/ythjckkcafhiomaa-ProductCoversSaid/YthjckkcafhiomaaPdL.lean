/- Walk: product.Check. -/
import Derived.Test.YthjckkcafhiomaaPdO
namespace Go.Proofs.Ythjckkcafhiomaa.Pd
open Go.RowKit

theorem checkProduct_is (p : Pr) (v : Int) (hv : ckP p = v) (w : World) (h : PrOk w p) : Calls Try.prog 23 #[.agg p.cells] w fun e w' => e = .returned (.int .i64 v) ∧ Below w.heap.size w w' := by
  subst hv; exact checkProduct_any p w h
theorem refOne_is (p : Pr) (v : Int) (hv : ckP p = v) (w : World) (h : PrOk w p) : Calls Try.prog 25 #[.agg p.cells] w fun e w' => e = .returned (.int .i64 v) ∧ Below w.heap.size w w' := by
  subst hv; exact refOne_any p w h
section
variable {l : List Pr} {i : Nat}
theorem pAt_e {ev : Int} (h : ckP (l.getD i pr0) = ev) (h0 : ev ≠ 0) : pAt l i = ev := by unfold pAt; rw [h, if_neg h0]
theorem pAt_0 (h : ckP (l.getD 0 pr0) = 0) : pAt l 0 = 0 := by unfold pAt; rw [h, if_pos rfl, if_neg (by omega)]
theorem pAt_b {v : Bool} (h : ckP (l.getD i pr0) = 0) (hi : 0 < i) (hv : bad (l.getD (i - 1) pr0) (l.getD i pr0) = v) : pAt l i = if v then 9 else 0 := by
  unfold pAt; rw [h, if_pos rfl, hv]
  cases v
  · rw [if_neg (by simp)]; rfl
  · rw [if_pos ⟨hi, rfl⟩]; rfl
theorem ckL_long (h : 4096 < l.length) : ckL l = 5 := by unfold ckL; rw [if_pos h]
theorem ckL_go (h : ¬ 4096 < l.length) : ckL l = fst0 (pAt l) l.length := by unfold ckL; rw [if_neg h]
end
set_option maxRecDepth 100000 in
set_option maxHeartbeats 16000000 in
theorem check_any (A : Option Addr) (n c : Nat) (l : List Pr) (w : World) (hA : PrR w A l) (hn : l.length = n) (h6 : n ≤ 1000000) :
    Calls Try.prog 10 #[.slice A n c] w fun e w' => e = .returned (.int .i64 (ckL l)) ∧ Below w.heap.size w w' := by
  by_cases h4 : 4096 < n
  · have d1 : decide (4096 < (n : Int)) = true := decide_eq_true (by omega)
    rw [ckL_long (by rw [hn]; exact h4)]
    clear hA hn h4
    go_enter Try.func10, Try.ntmps10
    go_wp2
    go_ret
    exact ⟨rfl, Below.refl _ _⟩
  have d1 : decide (4096 < (n : Int)) = false := decide_eq_false (by omega)
  have HR := Lib.hid (ckL_go (l := l) (by rw [hn]; exact h4))
  have HA := Lib.hid hA; have HN := Lib.hid hn
  clear hA hn h4
  go_enter Try.func10, Try.ntmps10
  go_wp2_with fail
  clear d1
  go_loopw [11] (fun iv wr => ∃ k : Nat, iv = .int .i64 k ∧ k ≤ n ∧ Hid (Below w.heap.size w wr) ∧ Hid (fst0 (pAt l) k = 0)) (fun iv _ => n - (intOf iv).toNat)
  case atStart => exact ⟨0, rfl, by omega, Lib.hid (Below.refl _ _), Lib.hid rfl⟩
  case round =>
    obtain ⟨k, rfl, hk, HB, HO⟩ := hrel
    by_cases hlt : k < n
    · have hkl : k < l.length := by rw [HN.out]; exact hlt
      have hlt' : (k : Int) < (n : Int) := by omega
      obtain ⟨bk, off, rfl, hbl, hcs, hok⟩ := HA.out k hkl
      have hcs := hcs.below HB.out hbl
      have hok := hok.below HB.out
      obtain ⟨ev, hev⟩ : ∃ ev, ckP (l.getD k pr0) = ev := ⟨_, rfl⟩
      have HEV := Lib.hid hev; have HKL := Lib.hid hkl
      obtain ⟨p, hp⟩ : ∃ p, l.getD k pr0 = p := ⟨_, rfl⟩
      rw [hp] at hcs hok hev
      have HP := Lib.hid hp
      have HCK := Lib.hid (fun (W : World) (hb : Below wr.heap.size wr W) => checkProduct_is p ev hev W (hok.below hb))
      have HCM := Lib.hid (fun (o : Pr) (cv : Int) (h : orI (cmpB o.nm p.nm) (Lib.compareInt o.fr p.fr) = cv) (W : World) => compare_is o p cv h W)
      obtain ⟨nm, fr, fe, ca, pr, pA, pN, pC, bs⟩ := p
      unfold Pr.cells at hcs HCK HCM
      simp only at hcs HCK HCM
      obtain ⟨e0, e1, e2, e3, e4, e5⟩ := hcs.all
      obtain ⟨R, hR⟩ : ∃ R, wr.alloc (.cells #[.string nm, .int .i64 fr, .int .i64 fe, .string ca, .bool pr, .slice pA pN pC] 29) = R := ⟨_, rfl⟩
      obtain ⟨q, hq⟩ : ∃ q, wr.heap.size = q := ⟨_, rfl⟩
      have hbR : Below wr.heap.size wr R := hR ▸ below_one wr _
      have hqR : Blk R q 29 #[.string nm, .int .i64 fr, .int .i64 fe, .string ca, .bool pr, .slice pA pN pC] := hR ▸ hq ▸ Blk.new wr _ _
      obtain ⟨q0, q1, q2, q3, q4, q5⟩ := hqR.six
      have HRB := Lib.hid hbR; have HQR := Lib.hid hqR
      have HBR := Lib.hid (HB.out.trans (hbR.mono HB.out.size))
      clear hqR hbR hcs hok hev hp hbl hkl
      by_cases h0 : ev = 0
      · subst h0
        by_cases hk0 : k = 0
        · have HO2 : Hid (fst0 (pAt l) (k + 1) = 0) := Lib.hid (fst0_next HO.out (by have := HEV.out; rw [hk0] at this ⊢; exact pAt_0 this))
          have hk1 : ¬ ((0 : Int) < (k : Int)) := by omega
          have hk2 : decide ((0 : Int) < (k : Int)) = false := decide_eq_false hk1
          have hk3 : ¬ (0 < k) := by omega
          have hk4 : decide (0 < k) = false := decide_eq_false hk3
          clear hk0
          go_wp2_with (go_at_call 23; (with_reducible refine (HCK.out _ HRB.out).mono ?_); rintro e w1 ⟨rfl, hb1⟩; have HB2 := Lib.hid (HBR.out.trans (hb1.mono HBR.out.size)); clear hb1)
          refine wp_region_quiet_below (by kernel_rfl) (by kernel_rfl) ?_
          iterate 12 (go_big_quiet_step (fail))
          refine wpQuiet_nil ?_
          intro Wq hw'
          have HBQ : Hid (Below w1.heap.size w1 Wq) := Lib.hid (by obtain ⟨⟨dq, osq⟩, hw''⟩ := hw'; rw [hw'']; exact below_regrown _ _ _)
          clear hw'
          go_wp2_with fail
          go_roundw
          case rel => exact ⟨k + 1, by go_num, by omega, Lib.hid (HB2.out.trans (HBQ.out.mono HB2.out.size)), HO2⟩
          case measure => simp [intOf]; omega
        · obtain ⟨j, rfl⟩ : ∃ j, k = j + 1 := ⟨k - 1, by omega⟩
          have hjl : j < l.length := by have := HKL.out; omega
          obtain ⟨bk', off', hA', hbl', hcs', -⟩ := HA.out j hjl
          obtain ⟨rfl, rfl⟩ : bk = bk' ∧ off = off' := by injection hA' with h; injection h with h1 h2 h3; exact ⟨h1, h2⟩
          have HCS := Lib.hid (fun (W : World) (hb : Below w.heap.size w W) => (hcs'.below hb hbl'))
          obtain ⟨v, hv⟩ : ∃ v, bad (l.getD j pr0) (l.getD (j + 1) pr0) = v := ⟨_, rfl⟩
          have HPB := Lib.hid (pAt_b (l := l) (i := j + 1) HEV.out (by omega) hv)
          have hbc := bad_cmp (l.getD j pr0) (l.getD (j + 1) pr0)
          rw [hv, HP.out] at hbc
          obtain ⟨o, ho⟩ : ∃ o, l.getD j pr0 = o := ⟨_, rfl⟩
          rw [ho] at HCS hbc
          have HCO := Lib.hid (HCM.out o)
          obtain ⟨nm', fr', fe', ca', pr', pA', pN', pC', bs'⟩ := o
          unfold Pr.cells at HCS
          simp only at HCS HCO hbc
          obtain ⟨cv, hcv⟩ : ∃ cv, orI (cmpB nm' nm) (Lib.compareInt fr' fr) = cv := ⟨_, rfl⟩
          rw [hcv] at hbc
          have HCC := Lib.hid (HCO.out cv hcv)
          have hwr : IntKind.i64.wrap ((((j + 1 : Nat) : Int)) - 1) = (j : Int) := by rw [show (((j + 1 : Nat) : Int)) - 1 = (j : Int) by omega]; exact IntWalk.i64_in _ (by omega)
          have hwr2 : IntKind.i64.wrap (j : Int) = (j : Int) := IntWalk.i64_in _ (by omega)
          have hj1 : (j : Int) < (n : Int) := by omega
          have hj2 : (0 : Int) < ((j + 1 : Nat) : Int) := by omega
          have hj3 : (0 : Int) < (j : Int) + 1 := by omega
          have hj4 : decide ((0 : Int) < (j : Int) + 1) = true := decide_eq_true hj3
          clear hA' hbl' hcs' hv ho hcv HCM HCO
          go_wp2_with (go_at_call 23; (with_reducible refine (HCK.out _ HRB.out).mono ?_); rintro e w1 ⟨rfl, hb1⟩; have HB2 := Lib.hid (HBR.out.trans (hb1.mono HBR.out.size)); have HQ2 := Lib.hid (HQR.out.below hb1 HQR.out.lt); clear q0 q1 q2 q3 q4 q5 e0 e1 e2 e3 e4 e5 hb1; obtain ⟨q0, q1, q2, q3, q4, q5⟩ := HQ2.out.six; obtain ⟨e0, e1, e2, e3, e4, e5⟩ := (HCS.out _ HB2.out).all)
          clear hR hq
          go_region_held3 (fun w' => w'.cell? ⟨q, 0, none⟩ = some (.string nm) ∧ w'.cell? ⟨q, 1, none⟩ = some (.int .i64 fr) ∧ w'.cell? ⟨q, 2, none⟩ = some (.int .i64 fe) ∧ w'.cell? ⟨q, 3, none⟩ = some (.string ca) ∧ w'.cell? ⟨q, 4, none⟩ = some (.bool pr) ∧ w'.cell? ⟨q, 5, none⟩ = some (.slice pA pN pC) ∧ w'.cell? ⟨bk, off + j * 6, none⟩ = some (.string nm') ∧ w'.cell? ⟨bk, off + j * 6 + 1, none⟩ = some (.int .i64 fr') ∧ w'.cell? ⟨bk, off + j * 6 + 2, none⟩ = some (.int .i64 fe') ∧ w'.cell? ⟨bk, off + j * 6 + 3, none⟩ = some (.string ca') ∧ w'.cell? ⟨bk, off + j * 6 + 4, none⟩ = some (.bool pr') ∧ w'.cell? ⟨bk, off + j * 6 + 5, none⟩ = some (.slice pA' pN' pC')) (go_keep)
            (first
              | (go_at_call 24; (with_reducible refine (HCC.out _).mono ?_); rintro e w3 ⟨rfl, hb3⟩; have hb4 : Below w1.heap.size w1 w3 := ⟨hb3.os, hb3.tape, hb3.output, hb3.size, hb3.block⟩; have HB3 := Lib.hid (HB2.out.trans (hb4.mono HB2.out.size)); obtain ⟨z0, z1, z2, z3, z4, z5⟩ := (HQ2.out.below hb4 HQ2.out.lt).six; obtain ⟨y0, y1, y2, y3, y4, y5⟩ := (HCS.out _ HB3.out).all; clear hb3 hb4))
          cases v
          · have HO2 : Hid (fst0 (pAt l) (j + 1 + 1) = 0) := Lib.hid (fst0_next HO.out HPB.out)
            go_wp2_with fail
            go_roundw
            case rel => exact ⟨j + 1 + 1, by go_num, by omega, HB3, HO2⟩
            case measure => simp [intOf]; omega
          · have HR2 := Lib.hid (HR.out.trans (fst0_hit (n := l.length) HO.out HPB.out (by decide) HKL.out))
            go_wp2_with fail
            go_ret
            exact ⟨ret_i64 HR2.out.symm, HB3.out⟩
      · have HR2 := Lib.hid (HR.out.trans (fst0_hit (n := l.length) HO.out (pAt_e HEV.out h0) h0 HKL.out))
        have h0q : (ev != 0) = true := by simp [h0]
        clear h0
        go_wp2_with (go_at_call 23; (with_reducible refine (HCK.out _ HRB.out).mono ?_); rintro e w1 ⟨rfl, hb1⟩; have HB2 := Lib.hid (HBR.out.trans (hb1.mono HBR.out.size)); clear hb1)
        go_ret
        exact ⟨ret_i64 HR2.out.symm, HB2.out⟩
    · obtain rfl : k = n := by omega
      have HR2 : Hid (ckL l = 0) := Lib.hid (by rw [HR.out, HN.out]; exact HO.out)
      go_wp2_with fail
      go_ret
      exact ⟨ret_i64 HR2.out.symm, HB.out⟩
end Go.Proofs.Ythjckkcafhiomaa.Pd
