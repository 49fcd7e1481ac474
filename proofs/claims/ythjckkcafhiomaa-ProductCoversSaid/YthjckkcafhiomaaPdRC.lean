/- Walks of the reference: Check, Ascending. -/
import Derived.Test.YthjckkcafhiomaaPdL
namespace Go.Proofs.Ythjckkcafhiomaa.Pd
open Go.RowKit

theorem order_ways (p q : Pr) :
    (bad p q = false ∧ Op.bytesLess p.nm.toList q.nm.toList = true ∧ (p.nm.toList == q.nm.toList) = false) ∨
    (bad p q = false ∧ Op.bytesLess p.nm.toList q.nm.toList = false ∧ (p.nm.toList == q.nm.toList) = true ∧ decide (q.fr ≤ p.fr) = false) ∨
    (bad p q = true ∧ Op.bytesLess p.nm.toList q.nm.toList = false ∧ (p.nm.toList == q.nm.toList) = true ∧ decide (q.fr ≤ p.fr) = true) ∨
    (bad p q = true ∧ Op.bytesLess p.nm.toList q.nm.toList = false ∧ (p.nm.toList == q.nm.toList) = false) := by
  rw [sEq]
  show (bad p q = false ∧ sLt p.nm q.nm = true ∧ _) ∨ (bad p q = false ∧ sLt p.nm q.nm = false ∧ _) ∨ (bad p q = true ∧ sLt p.nm q.nm = false ∧ _) ∨ (bad p q = true ∧ sLt p.nm q.nm = false ∧ _)
  unfold bad
  cases h : sLt p.nm q.nm
  · by_cases he : p.nm = q.nm
    · rw [he, sLt_irrefl]
      cases h3 : decide (q.fr ≤ p.fr) <;> simp
    · rw [sLt_total h he]
      simp [he]
  · rw [sLt_asymm h]
    have := sLt_ne h
    simp [this]
/-- Whether an element of a list is where it may be. -/
def aAt (l : List Pr) (i : Nat) : Bool := (decide (0 ≤ (l.getD i pr0).fr) && decide ((l.getD i pr0).fr < 12622780800)) && (decide (i = 0) || !bad (l.getD (i - 1) pr0) (l.getD i pr0))
def asc (l : List Pr) : Bool := (List.range l.length).all (aAt l)
theorem asc_yes {l : List Pr} (h : ∀ j, j < l.length → aAt l j = true) : asc l = true := by
  unfold asc; rw [List.all_eq_true]; exact fun j hj => h j (List.mem_range.1 hj)
theorem asc_no {l : List Pr} {j : Nat} (hj : j < l.length) (h : aAt l j = false) : asc l = false := by
  unfold asc; rw [List.all_eq_false]; exact ⟨j, List.mem_range.2 hj, by simp [h]⟩
theorem asc_at {l : List Pr} (h : asc l = true) {j : Nat} (hj : j < l.length) : aAt l j = true := by
  unfold asc at h; rw [List.all_eq_true] at h; exact h j (List.mem_range.2 hj)
section
variable {l : List Pr} {i : Nat}
theorem aAt_fr (h : (l.getD i pr0).fr < 0 ∨ 12622780800 ≤ (l.getD i pr0).fr) : aAt l i = false := by
  unfold aAt
  rw [show (decide (0 ≤ (l.getD i pr0).fr) && decide ((l.getD i pr0).fr < 12622780800)) = false by generalize (l.getD i pr0).fr = x at h; simp; omega]
  rfl
theorem aAt_0 (h : ¬ ((l.getD i pr0).fr < 0 ∨ 12622780800 ≤ (l.getD i pr0).fr)) (hi : i = 0) : aAt l i = true := by
  unfold aAt
  rw [show (decide (0 ≤ (l.getD i pr0).fr) && decide ((l.getD i pr0).fr < 12622780800)) = true by generalize (l.getD i pr0).fr = x at h; simp; omega, decide_eq_true hi]
  rfl
theorem aAt_b (h : ¬ ((l.getD i pr0).fr < 0 ∨ 12622780800 ≤ (l.getD i pr0).fr)) (hi : 0 < i) {v : Bool} (hv : bad (l.getD (i - 1) pr0) (l.getD i pr0) = v) : aAt l i = !v := by
  unfold aAt
  rw [show (decide (0 ≤ (l.getD i pr0).fr) && decide ((l.getD i pr0).fr < 12622780800)) = true by generalize (l.getD i pr0).fr = x at h; simp; omega, hv, decide_eq_false (by omega)]
  rfl
end
set_option maxRecDepth 100000 in
set_option maxHeartbeats 16000000 in
theorem refCheck_any (A : Option Addr) (n c : Nat) (l : List Pr) (w : World) (hA : PrR w A l) (hn : l.length = n) (h6 : n ≤ 1000000) :
    Calls Try.prog 11 #[.slice A n c] w fun e w' => e = .returned (.int .i64 (ckL l)) ∧ Below w.heap.size w w' := by
  by_cases h4 : 4096 < n
  · have d1 : decide (4096 < (n : Int)) = true := decide_eq_true (by omega)
    rw [ckL_long (by rw [hn]; exact h4)]
    clear hA hn h4
    go_enter Try.func11, Try.ntmps11
    go_wp2
    go_ret
    exact ⟨rfl, Below.refl _ _⟩
  have d1 : decide (4096 < (n : Int)) = false := decide_eq_false (by omega)
  have HR := Lib.hid (ckL_go (l := l) (by rw [hn]; exact h4))
  have HA := Lib.hid hA; have HN := Lib.hid hn
  clear hA hn h4
  go_enter Try.func11, Try.ntmps11
  go_wp2_with fail
  clear d1
  go_loopw [3] (fun iv wr => ∃ k : Nat, iv = .int .i64 k ∧ k ≤ n ∧ Hid (Below w.heap.size w wr) ∧ Hid (fst0 (pAt l) k = 0)) (fun iv _ => n - (intOf iv).toNat)
  case atStart => exact ⟨0, rfl, by omega, Lib.hid (Below.refl _ _), Lib.hid rfl⟩
  case round =>
    obtain ⟨k, rfl, hk, HB, HO⟩ := hrel
    by_cases hlt : k < n
    · have hkl : k < l.length := by rw [HN.out]; exact hlt
      have hlt' : (k : Int) < (n : Int) := by omega
      obtain ⟨bk, off, rfl, hbl, hcs0, hok⟩ := HA.out k hkl
      have hcs := hcs0.below HB.out hbl
      have hok := hok.below HB.out
      obtain ⟨ev, hev⟩ : ∃ ev, ckP (l.getD k pr0) = ev := ⟨_, rfl⟩
      have HEV := Lib.hid hev; have HKL := Lib.hid hkl
      obtain ⟨p, hp⟩ : ∃ p, l.getD k pr0 = p := ⟨_, rfl⟩
      rw [hp] at hcs0 hcs hok hev
      have HP := Lib.hid hp
      have HCK := Lib.hid (fun (W : World) (hb : Below wr.heap.size wr W) => refOne_is p ev hev W (hok.below hb))
      have HCP := Lib.hid (fun (W : World) (hb : Below w.heap.size w W) => (hcs0.below hb hbl))
      obtain ⟨nm, fr, fe, ca, pr, pA, pN, pC, bs⟩ := p
      unfold Pr.cells at hcs HCK HCP
      simp only at hcs HCK HCP
      obtain ⟨e0, e1, e2, e3, e4, e5⟩ := hcs.all
      have HRB := Lib.hid (Below.refl wr.heap.size wr)
      clear hcs hcs0 hok hev hp hbl hkl
      by_cases h0 : ev = 0
      · subst h0
        by_cases hk0 : k = 0
        · have HO2 : Hid (fst0 (pAt l) (k + 1) = 0) := Lib.hid (fst0_next HO.out (by have := HEV.out; rw [hk0] at this ⊢; exact pAt_0 this))
          have hk1 : ¬ ((0 : Int) < (k : Int)) := by omega
          have hk2 : decide ((0 : Int) < (k : Int)) = false := decide_eq_false hk1
          have hk3 : ¬ (0 < k) := by omega
          have hk4 : decide (0 < k) = false := decide_eq_false hk3
          clear hk0
          go_wp2_with (go_at_call 25; (with_reducible refine (HCK.out _ HRB.out).mono ?_); rintro e w1 ⟨rfl, hb1⟩; have HB2 := Lib.hid (HB.out.trans (hb1.mono HB.out.size)); clear hb1)
          refine wp_region_quiet_below (by kernel_rfl) (by kernel_rfl) ?_
          iterate 44 (go_big_quiet_step (fail))
          refine wpQuiet_nil ?_
          intro Wq hw'
          have HBQ : Hid (Below w1.heap.size w1 Wq) := Lib.hid (by obtain ⟨⟨dq, osq⟩, hw''⟩ := hw'; rw [hw'']; exact below_regrown _ _ _)
          clear hw'
          go_wp2_with fail
          go_roundw
          case rel => exact ⟨k + 1, by go_num, by omega, Lib.hid (HB2.out.trans (HBQ.out.mono HB2.out.size)), HO2⟩
          case measure => simp [intOf]; omega
        · obtain ⟨j, rfl⟩ : ∃ j, k = j + 1 := ⟨k - 1, by omega⟩
          have hjl : j < l.length := by have := HKL.out; omega
          obtain ⟨bk', off', hA', hbl', hcs', -⟩ := HA.out j hjl
          obtain ⟨rfl, rfl⟩ : bk = bk' ∧ off = off' := by injection hA' with h; injection h with h1 h2 h3; exact ⟨h1, h2⟩
          have HCS := Lib.hid (fun (W : World) (hb : Below w.heap.size w W) => (hcs'.below hb hbl'))
          have how := order_ways (l.getD j pr0) (l.getD (j + 1) pr0)
          obtain ⟨bv, hbv⟩ : ∃ bv, bad (l.getD j pr0) (l.getD (j + 1) pr0) = bv := ⟨_, rfl⟩
          have HPB := Lib.hid (fun (v : Bool) (h : bv = v) => pAt_b (l := l) (i := j + 1) HEV.out (by omega) (hbv.trans h))
          rw [hbv, HP.out] at how
          obtain ⟨o, ho⟩ : ∃ o, l.getD j pr0 = o := ⟨_, rfl⟩
          rw [ho] at HCS how
          obtain ⟨nm', fr', fe', ca', pr', pA', pN', pC', bs'⟩ := o
          unfold Pr.cells at HCS
          simp only at HCS how
          have hwr : IntKind.i64.wrap ((((j + 1 : Nat) : Int)) - 1) = (j : Int) := by rw [show (((j + 1 : Nat) : Int)) - 1 = (j : Int) by omega]; exact IntWalk.i64_in _ (by omega)
          have hwr2 : IntKind.i64.wrap (j : Int) = (j : Int) := IntWalk.i64_in _ (by omega)
          have hj1 : (j : Int) < (n : Int) := by omega
          have hj3 : (0 : Int) < (j : Int) + 1 := by omega
          have hj4 : decide ((0 : Int) < (j : Int) + 1) = true := decide_eq_true hj3
          have hj5 : (0 : Int) ≤ (j : Int) + 1 := by omega
          have hj6 : (j : Int) + 1 < (n : Int) := by omega
          have hj7 : ((j : Int) + 1).toNat = j + 1 := by omega
          clear hA' hbl' hcs' ho hbv
          have harm : True := trivial
          rcases how with ⟨hg, x1, x2⟩ | ⟨hg, x1, x2, x3⟩ | ⟨hg, x1, x2, x3⟩ | ⟨hg, x1, x2⟩
          case' inl => (have HO2 : Hid (fst0 (pAt l) (j + 1 + 1) = 0) := Lib.hid (fst0_next HO.out (HPB.out false hg)))
          case' inr.inl => (have HO2 : Hid (fst0 (pAt l) (j + 1 + 1) = 0) := Lib.hid (fst0_next HO.out (HPB.out false hg)))
          case' inr.inr.inl => (have HR2 := Lib.hid (HR.out.trans (fst0_hit (n := l.length) HO.out (HPB.out true hg) (by decide) HKL.out)))
          case' inr.inr.inr => (have HR2 := Lib.hid (HR.out.trans (fst0_hit (n := l.length) HO.out (HPB.out true hg) (by decide) HKL.out)))
          all_goals
            clear hg
            go_wp2_with (go_at_call 25; (with_reducible refine (HCK.out _ HRB.out).mono ?_); rintro e w1 ⟨rfl, hb1⟩; have HB2 := Lib.hid (HB.out.trans (hb1.mono HB.out.size)); clear e0 e1 e2 e3 e4 e5 hb1; obtain ⟨e0, e1, e2, e3, e4, e5⟩ := (HCP.out _ HB2.out).all; obtain ⟨y0, y1, y2, y3, y4, y5⟩ := (HCS.out _ HB2.out).all)
            have k0 := cell_regrown e0; have k1 := cell_regrown e1; have k2 := cell_regrown y0; have k3 := cell_regrown y1
            refine wp_region_quiet_below (by kernel_rfl) (by kernel_rfl) ?_
            iterate 44 (go_big_quiet_step (fail))
            refine wpQuiet_nil ?_
            intro Wq hw'
            have HBQ : Hid (Below w1.heap.size w1 Wq) := Lib.hid (by obtain ⟨⟨dq, osq⟩, hw''⟩ := hw'; rw [hw'']; exact below_regrown _ _ _)
            clear hw'
            go_wp2_with fail
          · go_ret
            exact ⟨ret_i64 HR2.out.symm, HB2.out.trans (HBQ.out.mono HB2.out.size)⟩
          · go_ret
            exact ⟨ret_i64 HR2.out.symm, HB2.out.trans (HBQ.out.mono HB2.out.size)⟩
          · go_roundw
            case rel => exact ⟨j + 1 + 1, by go_num, by omega, Lib.hid (HB2.out.trans (HBQ.out.mono HB2.out.size)), HO2⟩
            case measure => simp [intOf]; omega
          · go_roundw
            case rel => exact ⟨j + 1 + 1, by go_num, by omega, Lib.hid (HB2.out.trans (HBQ.out.mono HB2.out.size)), HO2⟩
            case measure => simp [intOf]; omega
      · have HR2 := Lib.hid (HR.out.trans (fst0_hit (n := l.length) HO.out (pAt_e HEV.out h0) h0 HKL.out))
        have h0q : (ev != 0) = true := by simp [h0]
        clear h0
        go_wp2_with (go_at_call 25; (with_reducible refine (HCK.out _ HRB.out).mono ?_); rintro e w1 ⟨rfl, hb1⟩; have HB2 := Lib.hid (HB.out.trans (hb1.mono HB.out.size)); clear hb1)
        go_ret
        exact ⟨ret_i64 HR2.out.symm, HB2.out⟩
    · obtain rfl : k = n := by omega
      have HR2 : Hid (ckL l = 0) := Lib.hid (by rw [HR.out, HN.out]; exact HO.out)
      go_wp2_with fail
      go_ret
      exact ⟨ret_i64 HR2.out.symm, HB.out⟩
end Go.Proofs.Ythjckkcafhiomaa.Pd
