/- Walks: whether a list of ranges is canonical. -/
import Derived.Test.YtgobbeommjjlfaaDdV
namespace Go.Proofs.Ytgobbeommjjlfaa
open Go.RowKit

theorem canB_no {l : List Rg} {k : Nat} (hk : k < l.length) (h : ckD l k = false) : canB l = false := by
  rw [Bool.eq_false_iff]; intro hc
  rw [canB_all.1 hc k hk] at h; cases h
theorem canB_yes {l : List Rg} (h : ∀ k, k < l.length → ckD l k = true) : canB l = true := canB_all.2 h
theorem ck_f {l : List Rg} {k : Nat} {s f t : Int} (hp : l.getD k rg0 = (s, f, t)) (h : idB s f = false) : ckD l k = false := by unfold ckD okR; rw [hp]; simp [h]
theorem ck_t {l : List Rg} {k : Nat} {s f t : Int} (hp : l.getD k rg0 = (s, f, t)) (h : idB s t = false) : ckD l k = false := by unfold ckD okR; rw [hp]; simp [h]
theorem ck_o {l : List Rg} {k : Nat} {s f t : Int} (hp : l.getD k rg0 = (s, f, t)) (h : decide (t < f) = true) : ckD l k = false := by
  have h := of_decide_eq_true h
  unfold ckD okR; rw [hp]
  have : ¬ f ≤ t := by omega
  simp [this]
theorem ck_ok {s f t : Int} (h1 : idB s f = true) (h2 : idB s t = true) (h3 : decide (t < f) = false) : okR (s, f, t) = true := okR_iff.2 ⟨h1, h2, by have := of_decide_eq_false h3; show f ≤ t; omega⟩
theorem ck_zero {l : List Rg} {s f t : Int} (hp : l.getD 0 rg0 = (s, f, t)) (h : okR (s, f, t) = true) : ckD l 0 = true := by unfold ckD; rw [hp, h]; rfl
theorem ck_pos {l : List Rg} {k : Nat} {r q : Rg} {v : Bool} (hp : l.getD (k + 1) rg0 = r) (hq : l.getD k rg0 = q) (h : okR r = true) (ha : apt q r = v) : ckD l (k + 1) = v := by
  unfold ckD; rw [hp, h, show k + 1 - 1 = k from rfl, hq, ha]; simp
theorem ck_id {l : List Rg} {k : Nat} {s f t : Int} (hp : l.getD k rg0 = (s, f, t)) (h : ckD l k = true) : 1 ≤ s ∧ s ≤ 99 ∧ 1 ≤ f ∧ f ≤ t ∧ t ≤ 999999999 := by
  unfold ckD at h
  rw [hp, Bool.and_eq_true] at h
  obtain ⟨a, b, c⟩ := okR_iff.1 h.1
  rw [idB_iff] at a b
  simp only at a b c
  omega
theorem snoc_all {l : List Rg} {k : Nat} (h : ∀ j, j < k → ckD l j = true) (hk : ckD l k = true) : ∀ j, j < k + 1 → ckD l j = true := fun j hj => by
  rcases Nat.lt_or_ge j k with h1 | h1
  · exact h j h1
  · obtain rfl : j = k := by omega
    exact hk

set_option maxHeartbeats 8000000 in
theorem check_any (A : Option Addr) (n c : Nat) (l : List Rg) (w : World) (hA : RgR w A l) (hn : l.length = n) (hc : n ≤ c) (hm : c ≤ maxLen) :
    Calls Try.prog 11 #[.slice A n c] w fun e w' => e = .returned (.bool (canB l)) ∧ Below w.heap.size w w' := by
  unfold maxLen at hm
  have HA := Lib.hid hA; have HN := Lib.hid hn
  clear hA hn
  go_enter Try.func11, Try.ntmps11
  go_wp2_with fail
  go_loopw [7] (fun iv wr => ∃ k : Nat, iv = .int .i64 k ∧ k ≤ n ∧ Below w.heap.size w wr ∧ Hid (∀ j, j < k → ckD l j = true)) (fun iv _ => n - (intOf iv).toNat)
  case atStart => exact ⟨0, rfl, by omega, Below.refl _ _, Lib.hid fun j h => absurd h (Nat.not_lt_zero j)⟩
  case round =>
    obtain ⟨k, rfl, hk, hb, HO⟩ := hrel
    have hs := hb.size
    by_cases hlt : k < n
    · have hkl : k < l.length := by rw [HN.out]; exact hlt
      obtain ⟨bk, off, rfl, hbl, g0, g1, g2⟩ := HA.out k hkl
      have e0 := (hb.cell (p := ⟨bk, off + k * 3, none⟩) hbl).trans g0
      have e1 := (hb.cell (p := ⟨bk, off + k * 3 + 1, none⟩) hbl).trans g1
      have e2 := (hb.cell (p := ⟨bk, off + k * 3 + 2, none⟩) hbl).trans g2
      have hlt' : (k : Int) < (n : Int) := by omega
      obtain ⟨⟨s, f, t⟩, hp⟩ : ∃ p, l.getD k rg0 = p := ⟨_, rfl⟩
      rw [hp] at e0 e1 e2
      simp only at e0 e1 e2
      have HP := Lib.hid hp
      have HKL := Lib.hid hkl
      have hBn := Blk.new wr 44 #[.int .i64 s, .int .i64 f, .int .i64 t]
      have hbn : Below w.heap.size w (wr.alloc (.cells #[.int .i64 s, .int .i64 f, .int .i64 t] 44)) := hb.alloc hs _
      obtain ⟨c0, c1, c2⟩ := hBn.three
      have hsn := hbn.size
      clear g0 g1 g2 hp hkl
      obtain ⟨v1, hv1⟩ : ∃ v, idB s f = v := ⟨_, rfl⟩
      obtain ⟨v2, hv2⟩ : ∃ v, idB s t = v := ⟨_, rfl⟩
      have HV1 := Lib.hid hv1; have HV2 := Lib.hid hv2
      clear hv1 hv2
      cases v1
      · have HR := Lib.hid (canB_no HKL.out (ck_f HP.out HV1.out))
        clear hBn
        go_wp2_with (first | (go_at_call 27; (first | (with_reducible refine (ident_is HV1.out _).mono ?_) | (with_reducible refine (ident_is HV2.out _).mono ?_)); rintro e w1 ⟨rfl, rfl⟩))
        go_ret
        exact ⟨ret_bool HR.out.symm, hbn⟩
      · cases v2
        · have HR := Lib.hid (canB_no HKL.out (ck_t HP.out HV2.out))
          clear hBn
          go_wp2_with (first | (go_at_call 27; (first | (with_reducible refine (ident_is HV1.out _).mono ?_) | (with_reducible refine (ident_is HV2.out _).mono ?_)); rintro e w1 ⟨rfl, rfl⟩))
          go_ret
          exact ⟨ret_bool HR.out.symm, hbn⟩
        · cases hft : decide (t < f)
          · have HOK := Lib.hid (ck_ok HV1.out HV2.out hft)
            by_cases hk0 : k = 0
            · subst hk0
              simp only [Nat.zero_mul, Nat.add_zero] at e0 e1 e2
              have HO2 := Lib.hid (snoc_all HO.out (ck_zero HP.out HOK.out))
              clear hBn
              go_wp2_with (first | (go_at_call 27; (first | (with_reducible refine (ident_is HV1.out _).mono ?_) | (with_reducible refine (ident_is HV2.out _).mono ?_)); rintro e w1 ⟨rfl, rfl⟩))
              go_quiet (fail)
              go_wp2_with fail
              go_roundw
              case rel => exact ⟨1, by go_num, by omega, below_drewN hbn _, HO2⟩
              case measure => simp [intOf]; omega
            · obtain ⟨k, rfl⟩ : ∃ m, k = m + 1 := ⟨k - 1, by omega⟩
              have hql : k < l.length := by have := HKL.out; omega
              obtain ⟨bq, offq, hbq, hbl2, q0, q1, q2⟩ := HA.out k hql
              obtain ⟨rfl, rfl⟩ : bk = bq ∧ off = offq := by injection hbq with h; injection h with h1 h2 h3; exact ⟨h1, h2⟩
              obtain ⟨⟨qs, qf, qt⟩, hq⟩ : ∃ p, l.getD k rg0 = p := ⟨_, rfl⟩
              rw [hq] at q0 q1 q2
              simp only at q0 q1 q2
              have d0 := (hbn.cell (p := ⟨bk, off + k * 3, none⟩) hbl).trans q0
              have d1 := (hbn.cell (p := ⟨bk, off + k * 3 + 1, none⟩) hbl).trans q1
              have d2 := (hbn.cell (p := ⟨bk, off + k * 3 + 2, none⟩) hbl).trans q2
              obtain ⟨i1, i2, i3, i4, i5⟩ := ck_id hq (HO.out k (by omega))
              obtain ⟨va, hva⟩ : ∃ v, apt (qs, qf, qt) (s, f, t) = v := ⟨_, rfl⟩
              have HCK := Lib.hid (ck_pos HP.out hq HOK.out hva)
              have hk1 : (0 : Int) < ((k + 1 : Nat) : Int) := by omega
              have hk1' : decide ((0 : Int) < (k : Int) + 1) = true := decide_eq_true (by omega)
              have hkw : ((k + 1 : Nat) : Int) - 1 = (k : Int) := by omega
              have hkw2 : IntKind.i64.wrap ((k : Int) + 1 - 1) = (k : Int) := by rw [show (k : Int) + 1 - 1 = (k : Int) by omega]; exact IntWalk.i64_in _ (by omega)
              clear q0 q1 q2 hql hbl2 hbq
              have HAP := Lib.hid (fun W => apart_is (w := W) hva (by omega) (by omega))
              clear hva hq
              have k0 := cell_regrown c0
              have k1 := cell_regrown c1
              have k2 := cell_regrown c2
              have k3 := cell_regrown d0
              have k4 := cell_regrown d1
              have k5 := cell_regrown d2
              go_wp2_with (first | (go_at_call 27; (first | (with_reducible refine (ident_is HV1.out _).mono ?_) | (with_reducible refine (ident_is HV2.out _).mono ?_)); rintro e w1 ⟨rfl, rfl⟩))
              refine wp_region_quiet_below (by kernel_rfl) (by kernel_rfl) ?_
              iterate 12 (go_big_quiet_step ((with_reducible exact Calls.regrown_of (HAP.out _))))
              refine wpQuiet_nil ?_
              intro _ hw'
              obtain ⟨⟨dq, osq⟩, hw''⟩ := hw'
              subst hw''
              have hbq := hbn.trans ((below_regrown _ dq osq).mono hsn)
              cases va
              · have HR := Lib.hid (canB_no HKL.out HCK.out)
                go_wp2_with fail
                go_ret
                exact ⟨ret_bool HR.out.symm, hbq⟩
              · have HO2 := Lib.hid (snoc_all HO.out HCK.out)
                go_wp2_with fail
                go_roundw
                case rel => exact ⟨k + 1 + 1, by go_num, by omega, hbq, HO2⟩
                case measure => simp [intOf]; omega
          · have HR := Lib.hid (canB_no HKL.out (ck_o HP.out hft))
            have hft' : t < f := of_decide_eq_true hft
            clear hBn
            go_wp2_with (first | (go_at_call 27; (first | (with_reducible refine (ident_is HV1.out _).mono ?_) | (with_reducible refine (ident_is HV2.out _).mono ?_)); rintro e w1 ⟨rfl, rfl⟩))
            go_ret
            exact ⟨ret_bool HR.out.symm, hbn⟩
    · obtain rfl : k = n := by omega
      have HR := Lib.hid (canB_yes (l := l) (fun j hj => HO.out j (by rw [← HN.out]; exact hj)))
      go_wp2_with fail
      go_ret
      exact ⟨ret_bool HR.out.symm, hb⟩

set_option maxHeartbeats 8000000 in
theorem refCheck_any (A : Option Addr) (n c : Nat) (l : List Rg) (w : World) (hA : RgR w A l) (hn : l.length = n) (hc : n ≤ c) (hm : c ≤ maxLen) :
    Calls Try.prog 12 #[.slice A n c] w fun e w' => e = .returned (.bool (canB l)) ∧ Below w.heap.size w w' := by
  unfold maxLen at hm
  have HA := Lib.hid hA; have HN := Lib.hid hn
  clear hA hn
  go_enter Try.func12, Try.ntmps12
  go_wp2_with fail
  go_loopw [3] (fun iv wr => ∃ k : Nat, iv = .int .i64 k ∧ k ≤ n ∧ Below w.heap.size w wr ∧ Hid (∀ j, j < k → ckD l j = true)) (fun iv _ => n - (intOf iv).toNat)
  case atStart => exact ⟨0, rfl, by omega, Below.refl _ _, Lib.hid fun j h => absurd h (Nat.not_lt_zero j)⟩
  case round =>
    obtain ⟨k, rfl, hk, hb, HO⟩ := hrel
    have hs := hb.size
    by_cases hlt : k < n
    · have hkl : k < l.length := by rw [HN.out]; exact hlt
      obtain ⟨bk, off, rfl, hbl, g0, g1, g2⟩ := HA.out k hkl
      have e0 := (hb.cell (p := ⟨bk, off + k * 3, none⟩) hbl).trans g0
      have e1 := (hb.cell (p := ⟨bk, off + k * 3 + 1, none⟩) hbl).trans g1
      have e2 := (hb.cell (p := ⟨bk, off + k * 3 + 2, none⟩) hbl).trans g2
      have hlt' : (k : Int) < (n : Int) := by omega
      obtain ⟨⟨s, f, t⟩, hp⟩ : ∃ p, l.getD k rg0 = p := ⟨_, rfl⟩
      rw [hp] at e0 e1 e2
      simp only at e0 e1 e2
      have HP := Lib.hid hp
      have HKL := Lib.hid hkl
      have hBn := Blk.new wr 44 #[.int .i64 s, .int .i64 f, .int .i64 t]
      have hbn : Below w.heap.size w (wr.alloc (.cells #[.int .i64 s, .int .i64 f, .int .i64 t] 44)) := hb.alloc hs _
      obtain ⟨c0, c1, c2⟩ := hBn.three
      have hsn := hbn.size
      clear g0 g1 g2 hp hkl
      obtain ⟨v1, hv1⟩ : ∃ v, idB s f = v := ⟨_, rfl⟩
      obtain ⟨v2, hv2⟩ : ∃ v, idB s t = v := ⟨_, rfl⟩
      have HV1 := Lib.hid hv1; have HV2 := Lib.hid hv2
      clear hv1 hv2
      cases v1
      · have HR := Lib.hid (canB_no HKL.out (ck_f HP.out HV1.out))
        clear hBn
        go_wp2_with (first | (go_at_call 29; (first | (with_reducible refine (refIdent_is HV1.out _).mono ?_) | (with_reducible refine (refIdent_is HV2.out _).mono ?_)); rintro e w1 ⟨rfl, rfl⟩))
        go_ret
        exact ⟨ret_bool HR.out.symm, hbn⟩
      · cases v2
        · have HR := Lib.hid (canB_no HKL.out (ck_t HP.out HV2.out))
          clear hBn
          go_wp2_with (first | (go_at_call 29; (first | (with_reducible refine (refIdent_is HV1.out _).mono ?_) | (with_reducible refine (refIdent_is HV2.out _).mono ?_)); rintro e w1 ⟨rfl, rfl⟩))
          go_ret
          exact ⟨ret_bool HR.out.symm, hbn⟩
        · cases hft : decide (t < f)
          · have HOK := Lib.hid (ck_ok HV1.out HV2.out hft)
            by_cases hk0 : k = 0
            · subst hk0
              simp only [Nat.zero_mul, Nat.add_zero] at e0 e1 e2
              have HO2 := Lib.hid (snoc_all HO.out (ck_zero HP.out HOK.out))
              clear hBn
              go_wp2_with (first | (go_at_call 29; (first | (with_reducible refine (refIdent_is HV1.out _).mono ?_) | (with_reducible refine (refIdent_is HV2.out _).mono ?_)); rintro e w1 ⟨rfl, rfl⟩))
              go_quiet (fail)
              go_wp2_with fail
              go_roundw
              case rel => exact ⟨1, by go_num, by omega, below_drewN hbn _, HO2⟩
              case measure => simp [intOf]; omega
            · obtain ⟨k, rfl⟩ : ∃ m, k = m + 1 := ⟨k - 1, by omega⟩
              have hql : k < l.length := by have := HKL.out; omega
              obtain ⟨bq, offq, hbq, hbl2, q0, q1, q2⟩ := HA.out k hql
              obtain ⟨rfl, rfl⟩ : bk = bq ∧ off = offq := by injection hbq with h; injection h with h1 h2 h3; exact ⟨h1, h2⟩
              obtain ⟨⟨qs, qf, qt⟩, hq⟩ : ∃ p, l.getD k rg0 = p := ⟨_, rfl⟩
              rw [hq] at q0 q1 q2
              simp only at q0 q1 q2
              have d0 := (hbn.cell (p := ⟨bk, off + k * 3, none⟩) hbl).trans q0
              have d1 := (hbn.cell (p := ⟨bk, off + k * 3 + 1, none⟩) hbl).trans q1
              have d2 := (hbn.cell (p := ⟨bk, off + k * 3 + 2, none⟩) hbl).trans q2
              obtain ⟨i1, i2, i3, i4, i5⟩ := ck_id hq (HO.out k (by omega))
              obtain ⟨va, hva⟩ : ∃ v, apt (qs, qf, qt) (s, f, t) = v := ⟨_, rfl⟩
              have HCK := Lib.hid (ck_pos HP.out hq HOK.out hva)
              have hk1 : (0 : Int) < ((k + 1 : Nat) : Int) := by omega
              have hk1' : decide ((0 : Int) < (k : Int) + 1) = true := decide_eq_true (by omega)
              have hkw : ((k + 1 : Nat) : Int) - 1 = (k : Int) := by omega
              have hkw2 : IntKind.i64.wrap ((k : Int) + 1 - 1) = (k : Int) := by rw [show (k : Int) + 1 - 1 = (k : Int) by omega]; exact IntWalk.i64_in _ (by omega)
              clear q0 q1 q2 hql hbl2 hbq
              clear hq
              by_cases x1 : s < qs
              · have dx1 : decide (s < qs) = true := decide_eq_true x1
                obtain rfl : va = false := by rw [← hva, Bool.eq_false_iff]; intro h; rw [apt_iff] at h; simp only at h; omega
                clear hva
                have HR := Lib.hid (canB_no HKL.out HCK.out)
                go_wp2_with (first | (go_at_call 29; (first | (with_reducible refine (refIdent_is HV1.out _).mono ?_) | (with_reducible refine (refIdent_is HV2.out _).mono ?_)); rintro e w1 ⟨rfl, rfl⟩))
                go_quiet (fail)
                go_wp2_with fail
                go_ret
                exact ⟨ret_bool HR.out.symm, below_drewN hbn _⟩
              · have dx1 : decide (s < qs) = false := decide_eq_false x1
                by_cases x2 : qs = s
                · subst x2
                  have dx2 : (qs == qs) = true := by simp
                  by_cases x3 : f ≤ qt + 1
                  · have dx3 : decide (f ≤ qt + 1) = true := decide_eq_true x3
                    obtain rfl : va = false := by rw [← hva, Bool.eq_false_iff]; intro h; rw [apt_iff] at h; simp only at h; omega
                    clear hva
                    have HR := Lib.hid (canB_no HKL.out HCK.out)
                    go_wp2_with (first | (go_at_call 29; (first | (with_reducible refine (refIdent_is HV1.out _).mono ?_) | (with_reducible refine (refIdent_is HV2.out _).mono ?_)); rintro e w1 ⟨rfl, rfl⟩))
                    go_quiet (fail)
                    go_wp2_with fail
                    go_ret
                    exact ⟨ret_bool HR.out.symm, below_drewN hbn _⟩
                  · have dx3 : decide (f ≤ qt + 1) = false := decide_eq_false x3
                    obtain rfl : va = true := by rw [← hva, apt_iff]; exact Or.inr ⟨rfl, by show qt + 1 < f; omega⟩
                    clear hva
                    have HO2 := Lib.hid (snoc_all HO.out HCK.out)
                    go_wp2_with (first | (go_at_call 29; (first | (with_reducible refine (refIdent_is HV1.out _).mono ?_) | (with_reducible refine (refIdent_is HV2.out _).mono ?_)); rintro e w1 ⟨rfl, rfl⟩))
                    go_quiet (fail)
                    go_wp2_with fail
                    go_roundw
                    case rel => exact ⟨k + 1 + 1, by go_num, by omega, below_drewN hbn _, HO2⟩
                    case measure => simp [intOf]; omega
                · have dx2 : (qs == s) = false := by simp [x2]
                  obtain rfl : va = true := by rw [← hva, apt_iff]; simp only; omega
                  clear hva
                  have HO2 := Lib.hid (snoc_all HO.out HCK.out)
                  go_wp2_with (first | (go_at_call 29; (first | (with_reducible refine (refIdent_is HV1.out _).mono ?_) | (with_reducible refine (refIdent_is HV2.out _).mono ?_)); rintro e w1 ⟨rfl, rfl⟩))
                  go_quiet (fail)
                  go_wp2_with fail
                  go_roundw
                  case rel => exact ⟨k + 1 + 1, by go_num, by omega, below_drewN hbn _, HO2⟩
                  case measure => simp [intOf]; omega
          · have HR := Lib.hid (canB_no HKL.out (ck_o HP.out hft))
            have hft' : t < f := of_decide_eq_true hft
            clear hBn
            go_wp2_with (first | (go_at_call 29; (first | (with_reducible refine (refIdent_is HV1.out _).mono ?_) | (with_reducible refine (refIdent_is HV2.out _).mono ?_)); rintro e w1 ⟨rfl, rfl⟩))
            go_ret
            exact ⟨ret_bool HR.out.symm, hbn⟩
    · obtain rfl : k = n := by omega
      have HR := Lib.hid (canB_yes (l := l) (fun j hj => HO.out j (by rw [← HN.out]; exact hj)))
      go_wp2_with fail
      go_ret
      exact ⟨ret_bool HR.out.symm, hb⟩

end Go.Proofs.Ytgobbeommjjlfaa
