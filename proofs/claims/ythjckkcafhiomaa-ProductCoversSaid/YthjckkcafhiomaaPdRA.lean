/- Walk of the reference: Ascending. -/
import Derived.Test.YthjckkcafhiomaaPdRC
namespace Go.Proofs.Ythjckkcafhiomaa.Pd
open Go.RowKit

set_option maxRecDepth 100000 in
set_option maxHeartbeats 16000000 in
theorem refAsc_any (A : Option Addr) (n c : Nat) (l : List Pr) (w : World) (hA : PrR w A l) (hn : l.length = n) (h6 : n ≤ 1000000) :
    Calls Try.prog 12 #[.slice A n c] w fun e w' => e = .returned (.bool (asc l)) ∧ Below w.heap.size w w' := by
  have HA := Lib.hid hA; have HN := Lib.hid hn
  clear hA hn
  go_enter Try.func12, Try.ntmps12
  go_wp2_with fail
  go_loopw [3] (fun iv wr => ∃ k : Nat, iv = .int .i64 k ∧ k ≤ n ∧ Hid (Below w.heap.size w wr) ∧ Hid (∀ j, j < k → aAt l j = true)) (fun iv _ => n - (intOf iv).toNat)
  case atStart => exact ⟨0, rfl, by omega, Lib.hid (Below.refl _ _), Lib.hid fun j h => absurd h (Nat.not_lt_zero j)⟩
  case round =>
    obtain ⟨k, rfl, hk, HB, HO⟩ := hrel
    by_cases hlt : k < n
    · have hkl : k < l.length := by rw [HN.out]; exact hlt
      have hlt' : (k : Int) < (n : Int) := by omega
      obtain ⟨bk, off, rfl, hbl, hcs, -⟩ := HA.out k hkl
      have hcs := hcs.below HB.out hbl
      have HKL := Lib.hid hkl
      have HNX := Lib.hid (fun (h : aAt l k = true) => (show ∀ j, j < k + 1 → aAt l j = true from fun j hj => by
        rcases Nat.lt_or_ge j k with h2 | h2
        · exact HO.out j h2
        · obtain rfl : j = k := by omega
          exact h))
      by_cases hfr : (l.getD k pr0).fr < 0 ∨ 12622780800 ≤ (l.getD k pr0).fr
      · have HR2 := Lib.hid (asc_no hkl (aAt_fr hfr))
        obtain ⟨p, hp⟩ : ∃ p, l.getD k pr0 = p := ⟨_, rfl⟩
        rw [hp] at hcs hfr
        obtain ⟨nm, fr, fe, ca, pr, pA, pN, pC, bs⟩ := p
        unfold Pr.cells at hcs
        simp only at hcs hfr
        obtain ⟨e0, e1, e2, e3, e4, e5⟩ := hcs.all
        have hw : decide (fr < 0) = true ∨ (decide (fr < 0) = false ∧ decide (12622780800 ≤ fr) = true) := by simp; omega
        clear hcs hp hbl hkl hfr
        rcases hw with d1 | ⟨d1, d2⟩
        all_goals
          go_wp2_with fail
          have k0 := cell_regrown e0; have k1 := cell_regrown e1
          refine wp_region_quiet_below (by kernel_rfl) (by kernel_rfl) ?_
          iterate 60 (go_big_quiet_step (fail))
          refine wpQuiet_nil ?_
          intro Wq hw'
          have HBQ : Hid (Below wr.heap.size wr Wq) := Lib.hid (by obtain ⟨⟨dq, osq⟩, hw''⟩ := hw'; rw [hw'']; exact below_regrown _ _ _)
          clear hw'
          go_wp2_with fail
          go_ret
          exact ⟨ret_bool HR2.out.symm, HB.out.trans (HBQ.out.mono HB.out.size)⟩
      · have HFR := Lib.hid hfr
        obtain ⟨p, hp⟩ : ∃ p, l.getD k pr0 = p := ⟨_, rfl⟩
        rw [hp] at hcs hfr
        have HP := Lib.hid hp
        obtain ⟨nm, fr, fe, ca, pr, pA, pN, pC, bs⟩ := p
        unfold Pr.cells at hcs
        simp only at hcs hfr
        obtain ⟨e0, e1, e2, e3, e4, e5⟩ := hcs.all
        have d1 : decide (fr < 0) = false := decide_eq_false (by omega)
        have d2 : decide (12622780800 ≤ fr) = false := decide_eq_false (by omega)
        clear hcs hp hbl hkl hfr
        by_cases hk0 : k = 0
        · have HO2 := Lib.hid (HNX.out (aAt_0 HFR.out hk0))
          have hk1 : ¬ ((0 : Int) < (k : Int)) := by omega
          have hk2 : decide ((0 : Int) < (k : Int)) = false := decide_eq_false hk1
          have hk3 : ¬ (0 < k) := by omega
          have hk4 : decide (0 < k) = false := decide_eq_false hk3
          clear hk0
          go_wp2_with fail
          have k0 := cell_regrown e0; have k1 := cell_regrown e1
          refine wp_region_quiet_below (by kernel_rfl) (by kernel_rfl) ?_
          iterate 60 (go_big_quiet_step (fail))
          refine wpQuiet_nil ?_
          intro Wq hw'
          have HBQ : Hid (Below wr.heap.size wr Wq) := Lib.hid (by obtain ⟨⟨dq, osq⟩, hw''⟩ := hw'; rw [hw'']; exact below_regrown _ _ _)
          clear hw'
          go_wp2_with fail
          go_roundw
          case rel => exact ⟨k + 1, by go_num, by omega, Lib.hid (HB.out.trans (HBQ.out.mono HB.out.size)), HO2⟩
          case measure => simp [intOf]; omega
        · obtain ⟨j, rfl⟩ : ∃ j, k = j + 1 := ⟨k - 1, by omega⟩
          have hjl : j < l.length := by have := HKL.out; omega
          obtain ⟨bk', off', hA', hbl', hcs', -⟩ := HA.out j hjl
          obtain ⟨rfl, rfl⟩ : bk = bk' ∧ off = off' := by injection hA' with h; injection h with h1 h2 h3; exact ⟨h1, h2⟩
          have HCS := Lib.hid (fun (W : World) (hb : Below w.heap.size w W) => (hcs'.below hb hbl'))
          have how := order_ways (l.getD j pr0) (l.getD (j + 1) pr0)
          obtain ⟨bv, hbv⟩ : ∃ bv, bad (l.getD j pr0) (l.getD (j + 1) pr0) = bv := ⟨_, rfl⟩
          have HPB := Lib.hid (fun (v : Bool) (h : bv = v) => aAt_b (l := l) (i := j + 1) HFR.out (by omega) (hbv.trans h))
          rw [hbv, HP.out] at how
          obtain ⟨o, ho⟩ : ∃ o, l.getD j pr0 = o := ⟨_, rfl⟩
          rw [ho] at HCS how
          obtain ⟨nm', fr', fe', ca', pr', pA', pN', pC', bs'⟩ := o
          unfold Pr.cells at HCS
          simp only at HCS how
          have hwr : IntKind.i64.wrap ((((j + 1 : Nat) : Int)) - 1) = (j : Int) := by rw [show (((j + 1 : Nat) : Int)) - 1 = (j : Int) by omega]; exact IntWalk.i64_in _ (by omega)
          have hwr2 : IntKind.i64.wrap (j : Int) = (j : Int) := IntWalk.i64_in _ (by omega)
          have hj1 : (j : Int) < (n : Int) := by omega
          have hj3 : (0 : Int) < (j : Int) + 1 := by omega
          have hj4 : decide ((0 : Int) < (j : Int) + 1) = true := decide_eq_true hj3
          have hj5 : (0 : Int) ≤ (j : Int) + 1 := by omega
          have hj6 : (j : Int) + 1 < (n : Int) := by omega
          have hj7 : ((j : Int) + 1).toNat = j + 1 := by omega
          clear hA' hbl' hcs' ho hbv
          obtain ⟨y0, y1, y2, y3, y4, y5⟩ := (HCS.out _ HB.out).all
          rcases how with ⟨hg, x1, x2⟩ | ⟨hg, x1, x2, x3⟩ | ⟨hg, x1, x2, x3⟩ | ⟨hg, x1, x2⟩
          case' inl => (have HO2 := Lib.hid (HNX.out (HPB.out false hg)))
          case' inr.inl => (have HO2 := Lib.hid (HNX.out (HPB.out false hg)))
          case' inr.inr.inl => (have HR2 := Lib.hid (asc_no HKL.out (HPB.out true hg)))
          case' inr.inr.inr => (have HR2 := Lib.hid (asc_no HKL.out (HPB.out true hg)))
          all_goals
            clear hg
            go_wp2_with fail
            have k0 := cell_regrown e0; have k1 := cell_regrown e1; have k2 := cell_regrown y0; have k3 := cell_regrown y1
            refine wp_region_quiet_below (by kernel_rfl) (by kernel_rfl) ?_
            iterate 60 (go_big_quiet_step (fail))
            refine wpQuiet_nil ?_
            intro Wq hw'
            have HBQ : Hid (Below wr.heap.size wr Wq) := Lib.hid (by obtain ⟨⟨dq, osq⟩, hw''⟩ := hw'; rw [hw'']; exact below_regrown _ _ _)
            clear hw'
            go_wp2_with fail
          · go_ret
            exact ⟨ret_bool HR2.out.symm, HB.out.trans (HBQ.out.mono HB.out.size)⟩
          · go_ret
            exact ⟨ret_bool HR2.out.symm, HB.out.trans (HBQ.out.mono HB.out.size)⟩
          · go_roundw
            case rel => exact ⟨j + 1 + 1, by go_num, by omega, Lib.hid (HB.out.trans (HBQ.out.mono HB.out.size)), HO2⟩
            case measure => simp [intOf]; omega
          · go_roundw
            case rel => exact ⟨j + 1 + 1, by go_num, by omega, Lib.hid (HB.out.trans (HBQ.out.mono HB.out.size)), HO2⟩
            case measure => simp [intOf]; omega
    · obtain rfl : k = n := by omega
      have HR2 : Hid (asc l = true) := Lib.hid (asc_yes (by rw [HN.out]; exact HO.out))
      go_wp2_with fail
      go_ret
      exact ⟨ret_bool HR2.out.symm, HB.out⟩
end Go.Proofs.Ythjckkcafhiomaa.Pd
