/- Walk: which records are valid. -/
import Derived.Test.YtokdfdinnaghmaaDoorRcM
import Derived.Deep.Cut
namespace Go.Proofs.YtokdfdinnaghmaaDoor
open Go.RowKit

theorem inb_true {n a b : Int} (h : inb n a b = true) : a ≤ n ∧ n ≤ b := by simpa [inb] using h
set_option maxRecDepth 100000 in
set_option maxHeartbeats 16000000 in
theorem check_any (r : Rc) (ha : r.sa.size ≤ maxLen) (hb : r.sb.size ≤ maxLen) (w : World) :
    Calls Tryd.prog 20 #[.agg r.cells] w fun e w' => e = .returned (.int .i64 (chkR r)) ∧ Below w.heap.size w w' := by
  obtain ⟨s0, s1, s2, sa, sb, s5, s6, s7, s8, b9, s10, b11⟩ := r
  simp only at ha hb
  have hG : ∀ (v0 v1 v2 va vt v5 v6 v7 v8 v10 : Bool), inb s0 1 99 = v0 → inb s1 1 999999999 = v1 → inb s2 1 4 = v2 → numB sa.data.toList = va → isT sb s2 = vt → inb s5 0 12622780799 = v5 → inb s6 0 1099511627776 = v6 → inb s7 0 999999999 = v7 → inb s8 0 99 = v8 → inb s10 0 999 = v10 →
      chkR ⟨s0, s1, s2, sa, sb, s5, s6, s7, s8, b9, s10, b11⟩ = chkV v0 v1 v2 va vt v5 v6 (decide (s2 = 1)) (decide (604800 < s6)) (decide (12622780800 < s5 + s6)) v7 v8 (decide (s8 = 0)) (decide (s7 = 0)) b9 v10 b11 (decide (s10 = 0)) := by
    intro v0 v1 v2 va vt v5 v6 v7 v8 v10 e0 e1 e2 ea et e5 e6 e7 e8 e10
    subst e0 e1 e2 ea et e5 e6 e7 e8 e10
    rfl
  obtain ⟨v0, hv0⟩ : ∃ v, inb s0 1 99 = v := ⟨_, rfl⟩
  obtain ⟨v1, hv1⟩ : ∃ v, inb s1 1 999999999 = v := ⟨_, rfl⟩
  obtain ⟨v2, hv2⟩ : ∃ v, inb s2 1 4 = v := ⟨_, rfl⟩
  obtain ⟨va, hva⟩ : ∃ v, numB sa.data.toList = v := ⟨_, rfl⟩
  obtain ⟨vt, hvt⟩ : ∃ v, isT sb s2 = v := ⟨_, rfl⟩
  obtain ⟨v5, hv5⟩ : ∃ v, inb s5 0 12622780799 = v := ⟨_, rfl⟩
  obtain ⟨v6, hv6⟩ : ∃ v, inb s6 0 1099511627776 = v := ⟨_, rfl⟩
  obtain ⟨v7, hv7⟩ : ∃ v, inb s7 0 999999999 = v := ⟨_, rfl⟩
  obtain ⟨v8, hv8⟩ : ∃ v, inb s8 0 99 = v := ⟨_, rfl⟩
  obtain ⟨v10, hv10⟩ : ∃ v, inb s10 0 999 = v := ⟨_, rfl⟩
  have HG := Lib.hid (hG v0 v1 v2 va vt v5 v6 v7 v8 v10 hv0 hv1 hv2 hva hvt hv5 hv6 hv7 hv8 hv10)
  have HA : Hid (∀ w, Calls Tryd.prog 31 #[.string sa] w fun e w' => e = .returned (.bool va) ∧ w = w') := Lib.hid (fun w => by subst hva; exact valid_any sa w ha)
  have HT : Hid (∀ w, Calls Tryd.prog 32 #[.string sb, .int .i64 s2] w fun e w' => e = .returned (.bool vt) ∧ w = w') := Lib.hid (fun w => isTarget_any sb s2 hb vt hvt w)
  have H0 := Lib.hid hv0; have H1 := Lib.hid hv1; have H2 := Lib.hid hv2; have H5 := Lib.hid hv5; have H6 := Lib.hid hv6; have H7 := Lib.hid hv7; have H8 := Lib.hid hv8; have H10 := Lib.hid hv10
  clear hG hv0 hv1 hv2 hva hvt hv5 hv6 hv7 hv8 hv10 ha hb
  go_enter Tryd.func20, Tryd.ntmps20
  simp only [Rc.cells]
  cases v0
  · go_wp2_with (first | (go_at_call 30; (first | (with_reducible refine (within_is H0.out _).mono ?_) | (with_reducible refine (within_is H1.out _).mono ?_) | (with_reducible refine (within_is H2.out _).mono ?_) | (with_reducible refine (within_is H5.out _).mono ?_) | (with_reducible refine (within_is H6.out _).mono ?_) | (with_reducible refine (within_is H7.out _).mono ?_) | (with_reducible refine (within_is H8.out _).mono ?_) | (with_reducible refine (within_is H10.out _).mono ?_)); rintro e w1 ⟨rfl, rfl⟩) | (go_at_call 31; refine (HA.out _).mono ?_; rintro e w1 ⟨rfl, rfl⟩) | (go_at_call 32; refine (HT.out _).mono ?_; rintro e w1 ⟨rfl, rfl⟩))
    go_ret
    exact ⟨ret_int (by rw [HG.out]; rfl), (Below.refl _ _).alloc (Nat.le_refl _) _⟩
  · cases v1
    · go_wp2_with (first | (go_at_call 30; (first | (with_reducible refine (within_is H0.out _).mono ?_) | (with_reducible refine (within_is H1.out _).mono ?_) | (with_reducible refine (within_is H2.out _).mono ?_) | (with_reducible refine (within_is H5.out _).mono ?_) | (with_reducible refine (within_is H6.out _).mono ?_) | (with_reducible refine (within_is H7.out _).mono ?_) | (with_reducible refine (within_is H8.out _).mono ?_) | (with_reducible refine (within_is H10.out _).mono ?_)); rintro e w1 ⟨rfl, rfl⟩) | (go_at_call 31; refine (HA.out _).mono ?_; rintro e w1 ⟨rfl, rfl⟩) | (go_at_call 32; refine (HT.out _).mono ?_; rintro e w1 ⟨rfl, rfl⟩))
      go_ret
      exact ⟨ret_int (by rw [HG.out]; rfl), (Below.refl _ _).alloc (Nat.le_refl _) _⟩
    · skip
      go_upto_region 4 with (first | (go_at_call 30; (first | (with_reducible refine (within_is H0.out _).mono ?_) | (with_reducible refine (within_is H1.out _).mono ?_) | (with_reducible refine (within_is H2.out _).mono ?_) | (with_reducible refine (within_is H5.out _).mono ?_) | (with_reducible refine (within_is H6.out _).mono ?_) | (with_reducible refine (within_is H7.out _).mono ?_) | (with_reducible refine (within_is H8.out _).mono ?_) | (with_reducible refine (within_is H10.out _).mono ?_)); rintro e w1 ⟨rfl, rfl⟩) | (go_at_call 31; refine (HA.out _).mono ?_; rintro e w1 ⟨rfl, rfl⟩) | (go_at_call 32; refine (HT.out _).mono ?_; rintro e w1 ⟨rfl, rfl⟩))
      cases v2
      · go_wp2_with (first | (go_at_call 30; (first | (with_reducible refine (within_is H0.out _).mono ?_) | (with_reducible refine (within_is H1.out _).mono ?_) | (with_reducible refine (within_is H2.out _).mono ?_) | (with_reducible refine (within_is H5.out _).mono ?_) | (with_reducible refine (within_is H6.out _).mono ?_) | (with_reducible refine (within_is H7.out _).mono ?_) | (with_reducible refine (within_is H8.out _).mono ?_) | (with_reducible refine (within_is H10.out _).mono ?_)); rintro e w1 ⟨rfl, rfl⟩) | (go_at_call 31; refine (HA.out _).mono ?_; rintro e w1 ⟨rfl, rfl⟩) | (go_at_call 32; refine (HT.out _).mono ?_; rintro e w1 ⟨rfl, rfl⟩))
        go_ret
        exact ⟨ret_int (by rw [HG.out]; rfl), (Below.refl _ _).alloc (Nat.le_refl _) _⟩
      · skip
        go_upto_region 6 with (first | (go_at_call 30; (first | (with_reducible refine (within_is H0.out _).mono ?_) | (with_reducible refine (within_is H1.out _).mono ?_) | (with_reducible refine (within_is H2.out _).mono ?_) | (with_reducible refine (within_is H5.out _).mono ?_) | (with_reducible refine (within_is H6.out _).mono ?_) | (with_reducible refine (within_is H7.out _).mono ?_) | (with_reducible refine (within_is H8.out _).mono ?_) | (with_reducible refine (within_is H10.out _).mono ?_)); rintro e w1 ⟨rfl, rfl⟩) | (go_at_call 31; refine (HA.out _).mono ?_; rintro e w1 ⟨rfl, rfl⟩) | (go_at_call 32; refine (HT.out _).mono ?_; rintro e w1 ⟨rfl, rfl⟩))
        cases va
        · go_wp2_with (first | (go_at_call 30; (first | (with_reducible refine (within_is H0.out _).mono ?_) | (with_reducible refine (within_is H1.out _).mono ?_) | (with_reducible refine (within_is H2.out _).mono ?_) | (with_reducible refine (within_is H5.out _).mono ?_) | (with_reducible refine (within_is H6.out _).mono ?_) | (with_reducible refine (within_is H7.out _).mono ?_) | (with_reducible refine (within_is H8.out _).mono ?_) | (with_reducible refine (within_is H10.out _).mono ?_)); rintro e w1 ⟨rfl, rfl⟩) | (go_at_call 31; refine (HA.out _).mono ?_; rintro e w1 ⟨rfl, rfl⟩) | (go_at_call 32; refine (HT.out _).mono ?_; rintro e w1 ⟨rfl, rfl⟩))
          go_ret
          exact ⟨ret_int (by rw [HG.out]; rfl), (Below.refl _ _).alloc (Nat.le_refl _) _⟩
        · cases vt
          · go_wp2_with (first | (go_at_call 30; (first | (with_reducible refine (within_is H0.out _).mono ?_) | (with_reducible refine (within_is H1.out _).mono ?_) | (with_reducible refine (within_is H2.out _).mono ?_) | (with_reducible refine (within_is H5.out _).mono ?_) | (with_reducible refine (within_is H6.out _).mono ?_) | (with_reducible refine (within_is H7.out _).mono ?_) | (with_reducible refine (within_is H8.out _).mono ?_) | (with_reducible refine (within_is H10.out _).mono ?_)); rintro e w1 ⟨rfl, rfl⟩) | (go_at_call 31; refine (HA.out _).mono ?_; rintro e w1 ⟨rfl, rfl⟩) | (go_at_call 32; refine (HT.out _).mono ?_; rintro e w1 ⟨rfl, rfl⟩))
            go_ret
            exact ⟨ret_int (by rw [HG.out]; rfl), (Below.refl _ _).alloc (Nat.le_refl _) _⟩
          · skip
            go_upto_region 8 with (first | (go_at_call 30; (first | (with_reducible refine (within_is H0.out _).mono ?_) | (with_reducible refine (within_is H1.out _).mono ?_) | (with_reducible refine (within_is H2.out _).mono ?_) | (with_reducible refine (within_is H5.out _).mono ?_) | (with_reducible refine (within_is H6.out _).mono ?_) | (with_reducible refine (within_is H7.out _).mono ?_) | (with_reducible refine (within_is H8.out _).mono ?_) | (with_reducible refine (within_is H10.out _).mono ?_)); rintro e w1 ⟨rfl, rfl⟩) | (go_at_call 31; refine (HA.out _).mono ?_; rintro e w1 ⟨rfl, rfl⟩) | (go_at_call 32; refine (HT.out _).mono ?_; rintro e w1 ⟨rfl, rfl⟩))
            cases v5
            · go_wp2_with (first | (go_at_call 30; (first | (with_reducible refine (within_is H0.out _).mono ?_) | (with_reducible refine (within_is H1.out _).mono ?_) | (with_reducible refine (within_is H2.out _).mono ?_) | (with_reducible refine (within_is H5.out _).mono ?_) | (with_reducible refine (within_is H6.out _).mono ?_) | (with_reducible refine (within_is H7.out _).mono ?_) | (with_reducible refine (within_is H8.out _).mono ?_) | (with_reducible refine (within_is H10.out _).mono ?_)); rintro e w1 ⟨rfl, rfl⟩) | (go_at_call 31; refine (HA.out _).mono ?_; rintro e w1 ⟨rfl, rfl⟩) | (go_at_call 32; refine (HT.out _).mono ?_; rintro e w1 ⟨rfl, rfl⟩))
              go_ret
              exact ⟨ret_int (by rw [HG.out]; rfl), (Below.refl _ _).alloc (Nat.le_refl _) _⟩
            · skip
              go_upto_region 10 with (first | (go_at_call 30; (first | (with_reducible refine (within_is H0.out _).mono ?_) | (with_reducible refine (within_is H1.out _).mono ?_) | (with_reducible refine (within_is H2.out _).mono ?_) | (with_reducible refine (within_is H5.out _).mono ?_) | (with_reducible refine (within_is H6.out _).mono ?_) | (with_reducible refine (within_is H7.out _).mono ?_) | (with_reducible refine (within_is H8.out _).mono ?_) | (with_reducible refine (within_is H10.out _).mono ?_)); rintro e w1 ⟨rfl, rfl⟩) | (go_at_call 31; refine (HA.out _).mono ?_; rintro e w1 ⟨rfl, rfl⟩) | (go_at_call 32; refine (HT.out _).mono ?_; rintro e w1 ⟨rfl, rfl⟩))
              have g5 := inb_true H5.out
              obtain ⟨g51, g52⟩ := g5
              cases v6
              · go_wp2_with (first | (go_at_call 30; (first | (with_reducible refine (within_is H0.out _).mono ?_) | (with_reducible refine (within_is H1.out _).mono ?_) | (with_reducible refine (within_is H2.out _).mono ?_) | (with_reducible refine (within_is H5.out _).mono ?_) | (with_reducible refine (within_is H6.out _).mono ?_) | (with_reducible refine (within_is H7.out _).mono ?_) | (with_reducible refine (within_is H8.out _).mono ?_) | (with_reducible refine (within_is H10.out _).mono ?_)); rintro e w1 ⟨rfl, rfl⟩) | (go_at_call 31; refine (HA.out _).mono ?_; rintro e w1 ⟨rfl, rfl⟩) | (go_at_call 32; refine (HT.out _).mono ?_; rintro e w1 ⟨rfl, rfl⟩))
                go_ret
                exact ⟨ret_int (by rw [HG.out]; rfl), (Below.refl _ _).alloc (Nat.le_refl _) _⟩
              · have g6 := inb_true H6.out
                obtain ⟨g61, g62⟩ := g6
                by_cases hk : s2 = 1
                · skip
                  subst hk
                  have HG9 := HG.out; clear HG; (try rw [decide_eq_true (rfl : (1 : Int) = 1)] at HG9); have HG := Lib.hid HG9; clear HG9
                  by_cases hu : 604800 < s6
                  · skip
                    have HG9 := HG.out; clear HG; rw [decide_eq_true hu] at HG9; have HG := Lib.hid HG9; clear HG9
                    go_wp2_with (first | (go_at_call 30; (first | (with_reducible refine (within_is H0.out _).mono ?_) | (with_reducible refine (within_is H1.out _).mono ?_) | (with_reducible refine (within_is H2.out _).mono ?_) | (with_reducible refine (within_is H5.out _).mono ?_) | (with_reducible refine (within_is H6.out _).mono ?_) | (with_reducible refine (within_is H7.out _).mono ?_) | (with_reducible refine (within_is H8.out _).mono ?_) | (with_reducible refine (within_is H10.out _).mono ?_)); rintro e w1 ⟨rfl, rfl⟩) | (go_at_call 31; refine (HA.out _).mono ?_; rintro e w1 ⟨rfl, rfl⟩) | (go_at_call 32; refine (HT.out _).mono ?_; rintro e w1 ⟨rfl, rfl⟩))
                    go_ret
                    exact ⟨ret_int (by rw [HG.out]; rfl), (Below.refl _ _).alloc (Nat.le_refl _) _⟩
                  · skip
                    have HG9 := HG.out; clear HG; rw [decide_eq_false hu] at HG9; have HG := Lib.hid HG9; clear HG9
                    go_upto_region 12 with (first | (go_at_call 30; (first | (with_reducible refine (within_is H0.out _).mono ?_) | (with_reducible refine (within_is H1.out _).mono ?_) | (with_reducible refine (within_is H2.out _).mono ?_) | (with_reducible refine (within_is H5.out _).mono ?_) | (with_reducible refine (within_is H6.out _).mono ?_) | (with_reducible refine (within_is H7.out _).mono ?_) | (with_reducible refine (within_is H8.out _).mono ?_) | (with_reducible refine (within_is H10.out _).mono ?_)); rintro e w1 ⟨rfl, rfl⟩) | (go_at_call 31; refine (HA.out _).mono ?_; rintro e w1 ⟨rfl, rfl⟩) | (go_at_call 32; refine (HT.out _).mono ?_; rintro e w1 ⟨rfl, rfl⟩))
                    by_cases hq : 12622780800 < s5 + s6
                    · skip
                      have HG9 := HG.out; clear HG; rw [decide_eq_true hq] at HG9; have HG := Lib.hid HG9; clear HG9
                      go_wp2_with (first | (go_at_call 30; (first | (with_reducible refine (within_is H0.out _).mono ?_) | (with_reducible refine (within_is H1.out _).mono ?_) | (with_reducible refine (within_is H2.out _).mono ?_) | (with_reducible refine (within_is H5.out _).mono ?_) | (with_reducible refine (within_is H6.out _).mono ?_) | (with_reducible refine (within_is H7.out _).mono ?_) | (with_reducible refine (within_is H8.out _).mono ?_) | (with_reducible refine (within_is H10.out _).mono ?_)); rintro e w1 ⟨rfl, rfl⟩) | (go_at_call 31; refine (HA.out _).mono ?_; rintro e w1 ⟨rfl, rfl⟩) | (go_at_call 32; refine (HT.out _).mono ?_; rintro e w1 ⟨rfl, rfl⟩))
                      go_ret
                      exact ⟨ret_int (by rw [HG.out]; rfl), (Below.refl _ _).alloc (Nat.le_refl _) _⟩
                    · skip
                      have HG9 := HG.out; clear HG; rw [decide_eq_false hq] at HG9; have HG := Lib.hid HG9; clear HG9
                      go_upto_region 14 with (first | (go_at_call 30; (first | (with_reducible refine (within_is H0.out _).mono ?_) | (with_reducible refine (within_is H1.out _).mono ?_) | (with_reducible refine (within_is H2.out _).mono ?_) | (with_reducible refine (within_is H5.out _).mono ?_) | (with_reducible refine (within_is H6.out _).mono ?_) | (with_reducible refine (within_is H7.out _).mono ?_) | (with_reducible refine (within_is H8.out _).mono ?_) | (with_reducible refine (within_is H10.out _).mono ?_)); rintro e w1 ⟨rfl, rfl⟩) | (go_at_call 31; refine (HA.out _).mono ?_; rintro e w1 ⟨rfl, rfl⟩) | (go_at_call 32; refine (HT.out _).mono ?_; rintro e w1 ⟨rfl, rfl⟩))
                      cases v7
                      · go_wp2_with (first | (go_at_call 30; (first | (with_reducible refine (within_is H0.out _).mono ?_) | (with_reducible refine (within_is H1.out _).mono ?_) | (with_reducible refine (within_is H2.out _).mono ?_) | (with_reducible refine (within_is H5.out _).mono ?_) | (with_reducible refine (within_is H6.out _).mono ?_) | (with_reducible refine (within_is H7.out _).mono ?_) | (with_reducible refine (within_is H8.out _).mono ?_) | (with_reducible refine (within_is H10.out _).mono ?_)); rintro e w1 ⟨rfl, rfl⟩) | (go_at_call 31; refine (HA.out _).mono ?_; rintro e w1 ⟨rfl, rfl⟩) | (go_at_call 32; refine (HT.out _).mono ?_; rintro e w1 ⟨rfl, rfl⟩))
                        go_ret
                        exact ⟨ret_int (by rw [HG.out]; rfl), (Below.refl _ _).alloc (Nat.le_refl _) _⟩
                      · cases v8
                        · go_wp2_with (first | (go_at_call 30; (first | (with_reducible refine (within_is H0.out _).mono ?_) | (with_reducible refine (within_is H1.out _).mono ?_) | (with_reducible refine (within_is H2.out _).mono ?_) | (with_reducible refine (within_is H5.out _).mono ?_) | (with_reducible refine (within_is H6.out _).mono ?_) | (with_reducible refine (within_is H7.out _).mono ?_) | (with_reducible refine (within_is H8.out _).mono ?_) | (with_reducible refine (within_is H10.out _).mono ?_)); rintro e w1 ⟨rfl, rfl⟩) | (go_at_call 31; refine (HA.out _).mono ?_; rintro e w1 ⟨rfl, rfl⟩) | (go_at_call 32; refine (HT.out _).mono ?_; rintro e w1 ⟨rfl, rfl⟩))
                          go_ret
                          exact ⟨ret_int (by rw [HG.out]; rfl), (Below.refl _ _).alloc (Nat.le_refl _) _⟩
                        · skip
                          go_upto_region 16 with (first | (go_at_call 30; (first | (with_reducible refine (within_is H0.out _).mono ?_) | (with_reducible refine (within_is H1.out _).mono ?_) | (with_reducible refine (within_is H2.out _).mono ?_) | (with_reducible refine (within_is H5.out _).mono ?_) | (with_reducible refine (within_is H6.out _).mono ?_) | (with_reducible refine (within_is H7.out _).mono ?_) | (with_reducible refine (within_is H8.out _).mono ?_) | (with_reducible refine (within_is H10.out _).mono ?_)); rintro e w1 ⟨rfl, rfl⟩) | (go_at_call 31; refine (HA.out _).mono ?_; rintro e w1 ⟨rfl, rfl⟩) | (go_at_call 32; refine (HT.out _).mono ?_; rintro e w1 ⟨rfl, rfl⟩))
                          by_cases z8 : s8 = 0
                          · skip
                            subst z8
                            have HG9 := HG.out; clear HG; (try rw [decide_eq_true (rfl : (0 : Int) = 0)] at HG9); have HG := Lib.hid HG9; clear HG9
                            by_cases z7 : s7 = 0
                            · skip
                              subst z7
                              have HG9 := HG.out; clear HG; (try rw [decide_eq_true (rfl : (0 : Int) = 0)] at HG9); have HG := Lib.hid HG9; clear HG9
                              cases b9
                              · skip
                                cases v10
                                · go_wp2_with (first | (go_at_call 30; (first | (with_reducible refine (within_is H0.out _).mono ?_) | (with_reducible refine (within_is H1.out _).mono ?_) | (with_reducible refine (within_is H2.out _).mono ?_) | (with_reducible refine (within_is H5.out _).mono ?_) | (with_reducible refine (within_is H6.out _).mono ?_) | (with_reducible refine (within_is H7.out _).mono ?_) | (with_reducible refine (within_is H8.out _).mono ?_) | (with_reducible refine (within_is H10.out _).mono ?_)); rintro e w1 ⟨rfl, rfl⟩) | (go_at_call 31; refine (HA.out _).mono ?_; rintro e w1 ⟨rfl, rfl⟩) | (go_at_call 32; refine (HT.out _).mono ?_; rintro e w1 ⟨rfl, rfl⟩))
                                  go_ret
                                  exact ⟨ret_int (by rw [HG.out]; rfl), (Below.refl _ _).alloc (Nat.le_refl _) _⟩
                                · cases b11
                                  · go_wp2_with (first | (go_at_call 30; (first | (with_reducible refine (within_is H0.out _).mono ?_) | (with_reducible refine (within_is H1.out _).mono ?_) | (with_reducible refine (within_is H2.out _).mono ?_) | (with_reducible refine (within_is H5.out _).mono ?_) | (with_reducible refine (within_is H6.out _).mono ?_) | (with_reducible refine (within_is H7.out _).mono ?_) | (with_reducible refine (within_is H8.out _).mono ?_) | (with_reducible refine (within_is H10.out _).mono ?_)); rintro e w1 ⟨rfl, rfl⟩) | (go_at_call 31; refine (HA.out _).mono ?_; rintro e w1 ⟨rfl, rfl⟩) | (go_at_call 32; refine (HT.out _).mono ?_; rintro e w1 ⟨rfl, rfl⟩))
                                    go_ret
                                    exact ⟨ret_int (by rw [HG.out]; rfl), (Below.refl _ _).alloc (Nat.le_refl _) _⟩
                                  · by_cases z10 : s10 = 0
                                    · skip
                                      subst z10
                                      have HG9 := HG.out; clear HG; (try rw [decide_eq_true (rfl : (0 : Int) = 0)] at HG9); have HG := Lib.hid HG9; clear HG9
                                      go_wp2_with (first | (go_at_call 30; (first | (with_reducible refine (within_is H0.out _).mono ?_) | (with_reducible refine (within_is H1.out _).mono ?_) | (with_reducible refine (within_is H2.out _).mono ?_) | (with_reducible refine (within_is H5.out _).mono ?_) | (with_reducible refine (within_is H6.out _).mono ?_) | (with_reducible refine (within_is H7.out _).mono ?_) | (with_reducible refine (within_is H8.out _).mono ?_) | (with_reducible refine (within_is H10.out _).mono ?_)); rintro e w1 ⟨rfl, rfl⟩) | (go_at_call 31; refine (HA.out _).mono ?_; rintro e w1 ⟨rfl, rfl⟩) | (go_at_call 32; refine (HT.out _).mono ?_; rintro e w1 ⟨rfl, rfl⟩))
                                      go_ret
                                      exact ⟨ret_int (by rw [HG.out]; rfl), (Below.refl _ _).alloc (Nat.le_refl _) _⟩
                                    · skip
                                      have HG9 := HG.out; clear HG; rw [decide_eq_false z10] at HG9; have HG := Lib.hid HG9; clear HG9
                                      go_wp2_with (first | (go_at_call 30; (first | (with_reducible refine (within_is H0.out _).mono ?_) | (with_reducible refine (within_is H1.out _).mono ?_) | (with_reducible refine (within_is H2.out _).mono ?_) | (with_reducible refine (within_is H5.out _).mono ?_) | (with_reducible refine (within_is H6.out _).mono ?_) | (with_reducible refine (within_is H7.out _).mono ?_) | (with_reducible refine (within_is H8.out _).mono ?_) | (with_reducible refine (within_is H10.out _).mono ?_)); rintro e w1 ⟨rfl, rfl⟩) | (go_at_call 31; refine (HA.out _).mono ?_; rintro e w1 ⟨rfl, rfl⟩) | (go_at_call 32; refine (HT.out _).mono ?_; rintro e w1 ⟨rfl, rfl⟩))
                                      go_ret
                                      exact ⟨ret_int (by rw [HG.out]; rfl), (Below.refl _ _).alloc (Nat.le_refl _) _⟩
                              · go_wp2_with (first | (go_at_call 30; (first | (with_reducible refine (within_is H0.out _).mono ?_) | (with_reducible refine (within_is H1.out _).mono ?_) | (with_reducible refine (within_is H2.out _).mono ?_) | (with_reducible refine (within_is H5.out _).mono ?_) | (with_reducible refine (within_is H6.out _).mono ?_) | (with_reducible refine (within_is H7.out _).mono ?_) | (with_reducible refine (within_is H8.out _).mono ?_) | (with_reducible refine (within_is H10.out _).mono ?_)); rintro e w1 ⟨rfl, rfl⟩) | (go_at_call 31; refine (HA.out _).mono ?_; rintro e w1 ⟨rfl, rfl⟩) | (go_at_call 32; refine (HT.out _).mono ?_; rintro e w1 ⟨rfl, rfl⟩))
                                go_ret
                                exact ⟨ret_int (by rw [HG.out]; rfl), (Below.refl _ _).alloc (Nat.le_refl _) _⟩
                            · skip
                              have HG9 := HG.out; clear HG; rw [decide_eq_false z7] at HG9; have HG := Lib.hid HG9; clear HG9
                              have z7b : (s7 == 0) = false := by simp [z7]
                              go_wp2_with (first | (go_at_call 30; (first | (with_reducible refine (within_is H0.out _).mono ?_) | (with_reducible refine (within_is H1.out _).mono ?_) | (with_reducible refine (within_is H2.out _).mono ?_) | (with_reducible refine (within_is H5.out _).mono ?_) | (with_reducible refine (within_is H6.out _).mono ?_) | (with_reducible refine (within_is H7.out _).mono ?_) | (with_reducible refine (within_is H8.out _).mono ?_) | (with_reducible refine (within_is H10.out _).mono ?_)); rintro e w1 ⟨rfl, rfl⟩) | (go_at_call 31; refine (HA.out _).mono ?_; rintro e w1 ⟨rfl, rfl⟩) | (go_at_call 32; refine (HT.out _).mono ?_; rintro e w1 ⟨rfl, rfl⟩))
                              go_ret
                              exact ⟨ret_int (by rw [HG.out]; rfl), (Below.refl _ _).alloc (Nat.le_refl _) _⟩
                          · skip
                            have HG9 := HG.out; clear HG; rw [decide_eq_false z8] at HG9; have HG := Lib.hid HG9; clear HG9
                            have z8b : (s8 == 0) = false := by simp [z8]
                            by_cases z7 : s7 = 0
                            · skip
                              subst z7
                              have HG9 := HG.out; clear HG; (try rw [decide_eq_true (rfl : (0 : Int) = 0)] at HG9); have HG := Lib.hid HG9; clear HG9
                              go_wp2_with (first | (go_at_call 30; (first | (with_reducible refine (within_is H0.out _).mono ?_) | (with_reducible refine (within_is H1.out _).mono ?_) | (with_reducible refine (within_is H2.out _).mono ?_) | (with_reducible refine (within_is H5.out _).mono ?_) | (with_reducible refine (within_is H6.out _).mono ?_) | (with_reducible refine (within_is H7.out _).mono ?_) | (with_reducible refine (within_is H8.out _).mono ?_) | (with_reducible refine (within_is H10.out _).mono ?_)); rintro e w1 ⟨rfl, rfl⟩) | (go_at_call 31; refine (HA.out _).mono ?_; rintro e w1 ⟨rfl, rfl⟩) | (go_at_call 32; refine (HT.out _).mono ?_; rintro e w1 ⟨rfl, rfl⟩))
                              go_ret
                              exact ⟨ret_int (by rw [HG.out]; rfl), (Below.refl _ _).alloc (Nat.le_refl _) _⟩
                            · skip
                              have HG9 := HG.out; clear HG; rw [decide_eq_false z7] at HG9; have HG := Lib.hid HG9; clear HG9
                              have z7b : (s7 == 0) = false := by simp [z7]
                              cases b9
                              · skip
                                cases v10
                                · go_wp2_with (first | (go_at_call 30; (first | (with_reducible refine (within_is H0.out _).mono ?_) | (with_reducible refine (within_is H1.out _).mono ?_) | (with_reducible refine (within_is H2.out _).mono ?_) | (with_reducible refine (within_is H5.out _).mono ?_) | (with_reducible refine (within_is H6.out _).mono ?_) | (with_reducible refine (within_is H7.out _).mono ?_) | (with_reducible refine (within_is H8.out _).mono ?_) | (with_reducible refine (within_is H10.out _).mono ?_)); rintro e w1 ⟨rfl, rfl⟩) | (go_at_call 31; refine (HA.out _).mono ?_; rintro e w1 ⟨rfl, rfl⟩) | (go_at_call 32; refine (HT.out _).mono ?_; rintro e w1 ⟨rfl, rfl⟩))
                                  go_ret
                                  exact ⟨ret_int (by rw [HG.out]; rfl), (Below.refl _ _).alloc (Nat.le_refl _) _⟩
                                · cases b11
                                  · go_wp2_with (first | (go_at_call 30; (first | (with_reducible refine (within_is H0.out _).mono ?_) | (with_reducible refine (within_is H1.out _).mono ?_) | (with_reducible refine (within_is H2.out _).mono ?_) | (with_reducible refine (within_is H5.out _).mono ?_) | (with_reducible refine (within_is H6.out _).mono ?_) | (with_reducible refine (within_is H7.out _).mono ?_) | (with_reducible refine (within_is H8.out _).mono ?_) | (with_reducible refine (within_is H10.out _).mono ?_)); rintro e w1 ⟨rfl, rfl⟩) | (go_at_call 31; refine (HA.out _).mono ?_; rintro e w1 ⟨rfl, rfl⟩) | (go_at_call 32; refine (HT.out _).mono ?_; rintro e w1 ⟨rfl, rfl⟩))
                                    go_ret
                                    exact ⟨ret_int (by rw [HG.out]; rfl), (Below.refl _ _).alloc (Nat.le_refl _) _⟩
                                  · by_cases z10 : s10 = 0
                                    · skip
                                      subst z10
                                      have HG9 := HG.out; clear HG; (try rw [decide_eq_true (rfl : (0 : Int) = 0)] at HG9); have HG := Lib.hid HG9; clear HG9
                                      go_wp2_with (first | (go_at_call 30; (first | (with_reducible refine (within_is H0.out _).mono ?_) | (with_reducible refine (within_is H1.out _).mono ?_) | (with_reducible refine (within_is H2.out _).mono ?_) | (with_reducible refine (within_is H5.out _).mono ?_) | (with_reducible refine (within_is H6.out _).mono ?_) | (with_reducible refine (within_is H7.out _).mono ?_) | (with_reducible refine (within_is H8.out _).mono ?_) | (with_reducible refine (within_is H10.out _).mono ?_)); rintro e w1 ⟨rfl, rfl⟩) | (go_at_call 31; refine (HA.out _).mono ?_; rintro e w1 ⟨rfl, rfl⟩) | (go_at_call 32; refine (HT.out _).mono ?_; rintro e w1 ⟨rfl, rfl⟩))
                                      go_ret
                                      exact ⟨ret_int (by rw [HG.out]; rfl), (Below.refl _ _).alloc (Nat.le_refl _) _⟩
                                    · skip
                                      have HG9 := HG.out; clear HG; rw [decide_eq_false z10] at HG9; have HG := Lib.hid HG9; clear HG9
                                      go_wp2_with (first | (go_at_call 30; (first | (with_reducible refine (within_is H0.out _).mono ?_) | (with_reducible refine (within_is H1.out _).mono ?_) | (with_reducible refine (within_is H2.out _).mono ?_) | (with_reducible refine (within_is H5.out _).mono ?_) | (with_reducible refine (within_is H6.out _).mono ?_) | (with_reducible refine (within_is H7.out _).mono ?_) | (with_reducible refine (within_is H8.out _).mono ?_) | (with_reducible refine (within_is H10.out _).mono ?_)); rintro e w1 ⟨rfl, rfl⟩) | (go_at_call 31; refine (HA.out _).mono ?_; rintro e w1 ⟨rfl, rfl⟩) | (go_at_call 32; refine (HT.out _).mono ?_; rintro e w1 ⟨rfl, rfl⟩))
                                      go_ret
                                      exact ⟨ret_int (by rw [HG.out]; rfl), (Below.refl _ _).alloc (Nat.le_refl _) _⟩
                              · skip
                                cases v10
                                · go_wp2_with (first | (go_at_call 30; (first | (with_reducible refine (within_is H0.out _).mono ?_) | (with_reducible refine (within_is H1.out _).mono ?_) | (with_reducible refine (within_is H2.out _).mono ?_) | (with_reducible refine (within_is H5.out _).mono ?_) | (with_reducible refine (within_is H6.out _).mono ?_) | (with_reducible refine (within_is H7.out _).mono ?_) | (with_reducible refine (within_is H8.out _).mono ?_) | (with_reducible refine (within_is H10.out _).mono ?_)); rintro e w1 ⟨rfl, rfl⟩) | (go_at_call 31; refine (HA.out _).mono ?_; rintro e w1 ⟨rfl, rfl⟩) | (go_at_call 32; refine (HT.out _).mono ?_; rintro e w1 ⟨rfl, rfl⟩))
                                  go_ret
                                  exact ⟨ret_int (by rw [HG.out]; rfl), (Below.refl _ _).alloc (Nat.le_refl _) _⟩
                                · cases b11
                                  · go_wp2_with (first | (go_at_call 30; (first | (with_reducible refine (within_is H0.out _).mono ?_) | (with_reducible refine (within_is H1.out _).mono ?_) | (with_reducible refine (within_is H2.out _).mono ?_) | (with_reducible refine (within_is H5.out _).mono ?_) | (with_reducible refine (within_is H6.out _).mono ?_) | (with_reducible refine (within_is H7.out _).mono ?_) | (with_reducible refine (within_is H8.out _).mono ?_) | (with_reducible refine (within_is H10.out _).mono ?_)); rintro e w1 ⟨rfl, rfl⟩) | (go_at_call 31; refine (HA.out _).mono ?_; rintro e w1 ⟨rfl, rfl⟩) | (go_at_call 32; refine (HT.out _).mono ?_; rintro e w1 ⟨rfl, rfl⟩))
                                    go_ret
                                    exact ⟨ret_int (by rw [HG.out]; rfl), (Below.refl _ _).alloc (Nat.le_refl _) _⟩
                                  · by_cases z10 : s10 = 0
                                    · skip
                                      subst z10
                                      have HG9 := HG.out; clear HG; (try rw [decide_eq_true (rfl : (0 : Int) = 0)] at HG9); have HG := Lib.hid HG9; clear HG9
                                      go_wp2_with (first | (go_at_call 30; (first | (with_reducible refine (within_is H0.out _).mono ?_) | (with_reducible refine (within_is H1.out _).mono ?_) | (with_reducible refine (within_is H2.out _).mono ?_) | (with_reducible refine (within_is H5.out _).mono ?_) | (with_reducible refine (within_is H6.out _).mono ?_) | (with_reducible refine (within_is H7.out _).mono ?_) | (with_reducible refine (within_is H8.out _).mono ?_) | (with_reducible refine (within_is H10.out _).mono ?_)); rintro e w1 ⟨rfl, rfl⟩) | (go_at_call 31; refine (HA.out _).mono ?_; rintro e w1 ⟨rfl, rfl⟩) | (go_at_call 32; refine (HT.out _).mono ?_; rintro e w1 ⟨rfl, rfl⟩))
                                      go_ret
                                      exact ⟨ret_int (by rw [HG.out]; rfl), (Below.refl _ _).alloc (Nat.le_refl _) _⟩
                                    · skip
                                      have HG9 := HG.out; clear HG; rw [decide_eq_false z10] at HG9; have HG := Lib.hid HG9; clear HG9
                                      go_wp2_with (first | (go_at_call 30; (first | (with_reducible refine (within_is H0.out _).mono ?_) | (with_reducible refine (within_is H1.out _).mono ?_) | (with_reducible refine (within_is H2.out _).mono ?_) | (with_reducible refine (within_is H5.out _).mono ?_) | (with_reducible refine (within_is H6.out _).mono ?_) | (with_reducible refine (within_is H7.out _).mono ?_) | (with_reducible refine (within_is H8.out _).mono ?_) | (with_reducible refine (within_is H10.out _).mono ?_)); rintro e w1 ⟨rfl, rfl⟩) | (go_at_call 31; refine (HA.out _).mono ?_; rintro e w1 ⟨rfl, rfl⟩) | (go_at_call 32; refine (HT.out _).mono ?_; rintro e w1 ⟨rfl, rfl⟩))
                                      go_ret
                                      exact ⟨ret_int (by rw [HG.out]; rfl), (Below.refl _ _).alloc (Nat.le_refl _) _⟩
                · skip
                  have HG9 := HG.out; clear HG; rw [decide_eq_false hk] at HG9; have HG := Lib.hid HG9; clear HG9
                  have hk2 : (s2 == 1) = false := by simp [hk]
                  go_upto_region 14 with (first | (go_at_call 30; (first | (with_reducible refine (within_is H0.out _).mono ?_) | (with_reducible refine (within_is H1.out _).mono ?_) | (with_reducible refine (within_is H2.out _).mono ?_) | (with_reducible refine (within_is H5.out _).mono ?_) | (with_reducible refine (within_is H6.out _).mono ?_) | (with_reducible refine (within_is H7.out _).mono ?_) | (with_reducible refine (within_is H8.out _).mono ?_) | (with_reducible refine (within_is H10.out _).mono ?_)); rintro e w1 ⟨rfl, rfl⟩) | (go_at_call 31; refine (HA.out _).mono ?_; rintro e w1 ⟨rfl, rfl⟩) | (go_at_call 32; refine (HT.out _).mono ?_; rintro e w1 ⟨rfl, rfl⟩))
                  cases v7
                  · go_wp2_with (first | (go_at_call 30; (first | (with_reducible refine (within_is H0.out _).mono ?_) | (with_reducible refine (within_is H1.out _).mono ?_) | (with_reducible refine (within_is H2.out _).mono ?_) | (with_reducible refine (within_is H5.out _).mono ?_) | (with_reducible refine (within_is H6.out _).mono ?_) | (with_reducible refine (within_is H7.out _).mono ?_) | (with_reducible refine (within_is H8.out _).mono ?_) | (with_reducible refine (within_is H10.out _).mono ?_)); rintro e w1 ⟨rfl, rfl⟩) | (go_at_call 31; refine (HA.out _).mono ?_; rintro e w1 ⟨rfl, rfl⟩) | (go_at_call 32; refine (HT.out _).mono ?_; rintro e w1 ⟨rfl, rfl⟩))
                    go_ret
                    exact ⟨ret_int (by rw [HG.out]; rfl), (Below.refl _ _).alloc (Nat.le_refl _) _⟩
                  · cases v8
                    · go_wp2_with (first | (go_at_call 30; (first | (with_reducible refine (within_is H0.out _).mono ?_) | (with_reducible refine (within_is H1.out _).mono ?_) | (with_reducible refine (within_is H2.out _).mono ?_) | (with_reducible refine (within_is H5.out _).mono ?_) | (with_reducible refine (within_is H6.out _).mono ?_) | (with_reducible refine (within_is H7.out _).mono ?_) | (with_reducible refine (within_is H8.out _).mono ?_) | (with_reducible refine (within_is H10.out _).mono ?_)); rintro e w1 ⟨rfl, rfl⟩) | (go_at_call 31; refine (HA.out _).mono ?_; rintro e w1 ⟨rfl, rfl⟩) | (go_at_call 32; refine (HT.out _).mono ?_; rintro e w1 ⟨rfl, rfl⟩))
                      go_ret
                      exact ⟨ret_int (by rw [HG.out]; rfl), (Below.refl _ _).alloc (Nat.le_refl _) _⟩
                    · skip
                      go_upto_region 16 with (first | (go_at_call 30; (first | (with_reducible refine (within_is H0.out _).mono ?_) | (with_reducible refine (within_is H1.out _).mono ?_) | (with_reducible refine (within_is H2.out _).mono ?_) | (with_reducible refine (within_is H5.out _).mono ?_) | (with_reducible refine (within_is H6.out _).mono ?_) | (with_reducible refine (within_is H7.out _).mono ?_) | (with_reducible refine (within_is H8.out _).mono ?_) | (with_reducible refine (within_is H10.out _).mono ?_)); rintro e w1 ⟨rfl, rfl⟩) | (go_at_call 31; refine (HA.out _).mono ?_; rintro e w1 ⟨rfl, rfl⟩) | (go_at_call 32; refine (HT.out _).mono ?_; rintro e w1 ⟨rfl, rfl⟩))
                      by_cases z8 : s8 = 0
                      · skip
                        subst z8
                        have HG9 := HG.out; clear HG; (try rw [decide_eq_true (rfl : (0 : Int) = 0)] at HG9); have HG := Lib.hid HG9; clear HG9
                        by_cases z7 : s7 = 0
                        · skip
                          subst z7
                          have HG9 := HG.out; clear HG; (try rw [decide_eq_true (rfl : (0 : Int) = 0)] at HG9); have HG := Lib.hid HG9; clear HG9
                          cases b9
                          · skip
                            cases v10
                            · go_wp2_with (first | (go_at_call 30; (first | (with_reducible refine (within_is H0.out _).mono ?_) | (with_reducible refine (within_is H1.out _).mono ?_) | (with_reducible refine (within_is H2.out _).mono ?_) | (with_reducible refine (within_is H5.out _).mono ?_) | (with_reducible refine (within_is H6.out _).mono ?_) | (with_reducible refine (within_is H7.out _).mono ?_) | (with_reducible refine (within_is H8.out _).mono ?_) | (with_reducible refine (within_is H10.out _).mono ?_)); rintro e w1 ⟨rfl, rfl⟩) | (go_at_call 31; refine (HA.out _).mono ?_; rintro e w1 ⟨rfl, rfl⟩) | (go_at_call 32; refine (HT.out _).mono ?_; rintro e w1 ⟨rfl, rfl⟩))
                              go_ret
                              exact ⟨ret_int (by rw [HG.out]; rfl), (Below.refl _ _).alloc (Nat.le_refl _) _⟩
                            · cases b11
                              · go_wp2_with (first | (go_at_call 30; (first | (with_reducible refine (within_is H0.out _).mono ?_) | (with_reducible refine (within_is H1.out _).mono ?_) | (with_reducible refine (within_is H2.out _).mono ?_) | (with_reducible refine (within_is H5.out _).mono ?_) | (with_reducible refine (within_is H6.out _).mono ?_) | (with_reducible refine (within_is H7.out _).mono ?_) | (with_reducible refine (within_is H8.out _).mono ?_) | (with_reducible refine (within_is H10.out _).mono ?_)); rintro e w1 ⟨rfl, rfl⟩) | (go_at_call 31; refine (HA.out _).mono ?_; rintro e w1 ⟨rfl, rfl⟩) | (go_at_call 32; refine (HT.out _).mono ?_; rintro e w1 ⟨rfl, rfl⟩))
                                go_ret
                                exact ⟨ret_int (by rw [HG.out]; rfl), (Below.refl _ _).alloc (Nat.le_refl _) _⟩
                              · by_cases z10 : s10 = 0
                                · skip
                                  subst z10
                                  have HG9 := HG.out; clear HG; (try rw [decide_eq_true (rfl : (0 : Int) = 0)] at HG9); have HG := Lib.hid HG9; clear HG9
                                  go_wp2_with (first | (go_at_call 30; (first | (with_reducible refine (within_is H0.out _).mono ?_) | (with_reducible refine (within_is H1.out _).mono ?_) | (with_reducible refine (within_is H2.out _).mono ?_) | (with_reducible refine (within_is H5.out _).mono ?_) | (with_reducible refine (within_is H6.out _).mono ?_) | (with_reducible refine (within_is H7.out _).mono ?_) | (with_reducible refine (within_is H8.out _).mono ?_) | (with_reducible refine (within_is H10.out _).mono ?_)); rintro e w1 ⟨rfl, rfl⟩) | (go_at_call 31; refine (HA.out _).mono ?_; rintro e w1 ⟨rfl, rfl⟩) | (go_at_call 32; refine (HT.out _).mono ?_; rintro e w1 ⟨rfl, rfl⟩))
                                  go_ret
                                  exact ⟨ret_int (by rw [HG.out]; rfl), (Below.refl _ _).alloc (Nat.le_refl _) _⟩
                                · skip
                                  have HG9 := HG.out; clear HG; rw [decide_eq_false z10] at HG9; have HG := Lib.hid HG9; clear HG9
                                  go_wp2_with (first | (go_at_call 30; (first | (with_reducible refine (within_is H0.out _).mono ?_) | (with_reducible refine (within_is H1.out _).mono ?_) | (with_reducible refine (within_is H2.out _).mono ?_) | (with_reducible refine (within_is H5.out _).mono ?_) | (with_reducible refine (within_is H6.out _).mono ?_) | (with_reducible refine (within_is H7.out _).mono ?_) | (with_reducible refine (within_is H8.out _).mono ?_) | (with_reducible refine (within_is H10.out _).mono ?_)); rintro e w1 ⟨rfl, rfl⟩) | (go_at_call 31; refine (HA.out _).mono ?_; rintro e w1 ⟨rfl, rfl⟩) | (go_at_call 32; refine (HT.out _).mono ?_; rintro e w1 ⟨rfl, rfl⟩))
                                  go_ret
                                  exact ⟨ret_int (by rw [HG.out]; rfl), (Below.refl _ _).alloc (Nat.le_refl _) _⟩
                          · go_wp2_with (first | (go_at_call 30; (first | (with_reducible refine (within_is H0.out _).mono ?_) | (with_reducible refine (within_is H1.out _).mono ?_) | (with_reducible refine (within_is H2.out _).mono ?_) | (with_reducible refine (within_is H5.out _).mono ?_) | (with_reducible refine (within_is H6.out _).mono ?_) | (with_reducible refine (within_is H7.out _).mono ?_) | (with_reducible refine (within_is H8.out _).mono ?_) | (with_reducible refine (within_is H10.out _).mono ?_)); rintro e w1 ⟨rfl, rfl⟩) | (go_at_call 31; refine (HA.out _).mono ?_; rintro e w1 ⟨rfl, rfl⟩) | (go_at_call 32; refine (HT.out _).mono ?_; rintro e w1 ⟨rfl, rfl⟩))
                            go_ret
                            exact ⟨ret_int (by rw [HG.out]; rfl), (Below.refl _ _).alloc (Nat.le_refl _) _⟩
                        · skip
                          have HG9 := HG.out; clear HG; rw [decide_eq_false z7] at HG9; have HG := Lib.hid HG9; clear HG9
                          have z7b : (s7 == 0) = false := by simp [z7]
                          go_wp2_with (first | (go_at_call 30; (first | (with_reducible refine (within_is H0.out _).mono ?_) | (with_reducible refine (within_is H1.out _).mono ?_) | (with_reducible refine (within_is H2.out _).mono ?_) | (with_reducible refine (within_is H5.out _).mono ?_) | (with_reducible refine (within_is H6.out _).mono ?_) | (with_reducible refine (within_is H7.out _).mono ?_) | (with_reducible refine (within_is H8.out _).mono ?_) | (with_reducible refine (within_is H10.out _).mono ?_)); rintro e w1 ⟨rfl, rfl⟩) | (go_at_call 31; refine (HA.out _).mono ?_; rintro e w1 ⟨rfl, rfl⟩) | (go_at_call 32; refine (HT.out _).mono ?_; rintro e w1 ⟨rfl, rfl⟩))
                          go_ret
                          exact ⟨ret_int (by rw [HG.out]; rfl), (Below.refl _ _).alloc (Nat.le_refl _) _⟩
                      · skip
                        have HG9 := HG.out; clear HG; rw [decide_eq_false z8] at HG9; have HG := Lib.hid HG9; clear HG9
                        have z8b : (s8 == 0) = false := by simp [z8]
                        by_cases z7 : s7 = 0
                        · skip
                          subst z7
                          have HG9 := HG.out; clear HG; (try rw [decide_eq_true (rfl : (0 : Int) = 0)] at HG9); have HG := Lib.hid HG9; clear HG9
                          go_wp2_with (first | (go_at_call 30; (first | (with_reducible refine (within_is H0.out _).mono ?_) | (with_reducible refine (within_is H1.out _).mono ?_) | (with_reducible refine (within_is H2.out _).mono ?_) | (with_reducible refine (within_is H5.out _).mono ?_) | (with_reducible refine (within_is H6.out _).mono ?_) | (with_reducible refine (within_is H7.out _).mono ?_) | (with_reducible refine (within_is H8.out _).mono ?_) | (with_reducible refine (within_is H10.out _).mono ?_)); rintro e w1 ⟨rfl, rfl⟩) | (go_at_call 31; refine (HA.out _).mono ?_; rintro e w1 ⟨rfl, rfl⟩) | (go_at_call 32; refine (HT.out _).mono ?_; rintro e w1 ⟨rfl, rfl⟩))
                          go_ret
                          exact ⟨ret_int (by rw [HG.out]; rfl), (Below.refl _ _).alloc (Nat.le_refl _) _⟩
                        · skip
                          have HG9 := HG.out; clear HG; rw [decide_eq_false z7] at HG9; have HG := Lib.hid HG9; clear HG9
                          have z7b : (s7 == 0) = false := by simp [z7]
                          cases b9
                          · skip
                            cases v10
                            · go_wp2_with (first | (go_at_call 30; (first | (with_reducible refine (within_is H0.out _).mono ?_) | (with_reducible refine (within_is H1.out _).mono ?_) | (with_reducible refine (within_is H2.out _).mono ?_) | (with_reducible refine (within_is H5.out _).mono ?_) | (with_reducible refine (within_is H6.out _).mono ?_) | (with_reducible refine (within_is H7.out _).mono ?_) | (with_reducible refine (within_is H8.out _).mono ?_) | (with_reducible refine (within_is H10.out _).mono ?_)); rintro e w1 ⟨rfl, rfl⟩) | (go_at_call 31; refine (HA.out _).mono ?_; rintro e w1 ⟨rfl, rfl⟩) | (go_at_call 32; refine (HT.out _).mono ?_; rintro e w1 ⟨rfl, rfl⟩))
                              go_ret
                              exact ⟨ret_int (by rw [HG.out]; rfl), (Below.refl _ _).alloc (Nat.le_refl _) _⟩
                            · cases b11
                              · go_wp2_with (first | (go_at_call 30; (first | (with_reducible refine (within_is H0.out _).mono ?_) | (with_reducible refine (within_is H1.out _).mono ?_) | (with_reducible refine (within_is H2.out _).mono ?_) | (with_reducible refine (within_is H5.out _).mono ?_) | (with_reducible refine (within_is H6.out _).mono ?_) | (with_reducible refine (within_is H7.out _).mono ?_) | (with_reducible refine (within_is H8.out _).mono ?_) | (with_reducible refine (within_is H10.out _).mono ?_)); rintro e w1 ⟨rfl, rfl⟩) | (go_at_call 31; refine (HA.out _).mono ?_; rintro e w1 ⟨rfl, rfl⟩) | (go_at_call 32; refine (HT.out _).mono ?_; rintro e w1 ⟨rfl, rfl⟩))
                                go_ret
                                exact ⟨ret_int (by rw [HG.out]; rfl), (Below.refl _ _).alloc (Nat.le_refl _) _⟩
                              · by_cases z10 : s10 = 0
                                · skip
                                  subst z10
                                  have HG9 := HG.out; clear HG; (try rw [decide_eq_true (rfl : (0 : Int) = 0)] at HG9); have HG := Lib.hid HG9; clear HG9
                                  go_wp2_with (first | (go_at_call 30; (first | (with_reducible refine (within_is H0.out _).mono ?_) | (with_reducible refine (within_is H1.out _).mono ?_) | (with_reducible refine (within_is H2.out _).mono ?_) | (with_reducible refine (within_is H5.out _).mono ?_) | (with_reducible refine (within_is H6.out _).mono ?_) | (with_reducible refine (within_is H7.out _).mono ?_) | (with_reducible refine (within_is H8.out _).mono ?_) | (with_reducible refine (within_is H10.out _).mono ?_)); rintro e w1 ⟨rfl, rfl⟩) | (go_at_call 31; refine (HA.out _).mono ?_; rintro e w1 ⟨rfl, rfl⟩) | (go_at_call 32; refine (HT.out _).mono ?_; rintro e w1 ⟨rfl, rfl⟩))
                                  go_ret
                                  exact ⟨ret_int (by rw [HG.out]; rfl), (Below.refl _ _).alloc (Nat.le_refl _) _⟩
                                · skip
                                  have HG9 := HG.out; clear HG; rw [decide_eq_false z10] at HG9; have HG := Lib.hid HG9; clear HG9
                                  go_wp2_with (first | (go_at_call 30; (first | (with_reducible refine (within_is H0.out _).mono ?_) | (with_reducible refine (within_is H1.out _).mono ?_) | (with_reducible refine (within_is H2.out _).mono ?_) | (with_reducible refine (within_is H5.out _).mono ?_) | (with_reducible refine (within_is H6.out _).mono ?_) | (with_reducible refine (within_is H7.out _).mono ?_) | (with_reducible refine (within_is H8.out _).mono ?_) | (with_reducible refine (within_is H10.out _).mono ?_)); rintro e w1 ⟨rfl, rfl⟩) | (go_at_call 31; refine (HA.out _).mono ?_; rintro e w1 ⟨rfl, rfl⟩) | (go_at_call 32; refine (HT.out _).mono ?_; rintro e w1 ⟨rfl, rfl⟩))
                                  go_ret
                                  exact ⟨ret_int (by rw [HG.out]; rfl), (Below.refl _ _).alloc (Nat.le_refl _) _⟩
                          · skip
                            cases v10
                            · go_wp2_with (first | (go_at_call 30; (first | (with_reducible refine (within_is H0.out _).mono ?_) | (with_reducible refine (within_is H1.out _).mono ?_) | (with_reducible refine (within_is H2.out _).mono ?_) | (with_reducible refine (within_is H5.out _).mono ?_) | (with_reducible refine (within_is H6.out _).mono ?_) | (with_reducible refine (within_is H7.out _).mono ?_) | (with_reducible refine (within_is H8.out _).mono ?_) | (with_reducible refine (within_is H10.out _).mono ?_)); rintro e w1 ⟨rfl, rfl⟩) | (go_at_call 31; refine (HA.out _).mono ?_; rintro e w1 ⟨rfl, rfl⟩) | (go_at_call 32; refine (HT.out _).mono ?_; rintro e w1 ⟨rfl, rfl⟩))
                              go_ret
                              exact ⟨ret_int (by rw [HG.out]; rfl), (Below.refl _ _).alloc (Nat.le_refl _) _⟩
                            · cases b11
                              · go_wp2_with (first | (go_at_call 30; (first | (with_reducible refine (within_is H0.out _).mono ?_) | (with_reducible refine (within_is H1.out _).mono ?_) | (with_reducible refine (within_is H2.out _).mono ?_) | (with_reducible refine (within_is H5.out _).mono ?_) | (with_reducible refine (within_is H6.out _).mono ?_) | (with_reducible refine (within_is H7.out _).mono ?_) | (with_reducible refine (within_is H8.out _).mono ?_) | (with_reducible refine (within_is H10.out _).mono ?_)); rintro e w1 ⟨rfl, rfl⟩) | (go_at_call 31; refine (HA.out _).mono ?_; rintro e w1 ⟨rfl, rfl⟩) | (go_at_call 32; refine (HT.out _).mono ?_; rintro e w1 ⟨rfl, rfl⟩))
                                go_ret
                                exact ⟨ret_int (by rw [HG.out]; rfl), (Below.refl _ _).alloc (Nat.le_refl _) _⟩
                              · by_cases z10 : s10 = 0
                                · skip
                                  subst z10
                                  have HG9 := HG.out; clear HG; (try rw [decide_eq_true (rfl : (0 : Int) = 0)] at HG9); have HG := Lib.hid HG9; clear HG9
                                  go_wp2_with (first | (go_at_call 30; (first | (with_reducible refine (within_is H0.out _).mono ?_) | (with_reducible refine (within_is H1.out _).mono ?_) | (with_reducible refine (within_is H2.out _).mono ?_) | (with_reducible refine (within_is H5.out _).mono ?_) | (with_reducible refine (within_is H6.out _).mono ?_) | (with_reducible refine (within_is H7.out _).mono ?_) | (with_reducible refine (within_is H8.out _).mono ?_) | (with_reducible refine (within_is H10.out _).mono ?_)); rintro e w1 ⟨rfl, rfl⟩) | (go_at_call 31; refine (HA.out _).mono ?_; rintro e w1 ⟨rfl, rfl⟩) | (go_at_call 32; refine (HT.out _).mono ?_; rintro e w1 ⟨rfl, rfl⟩))
                                  go_ret
                                  exact ⟨ret_int (by rw [HG.out]; rfl), (Below.refl _ _).alloc (Nat.le_refl _) _⟩
                                · skip
                                  have HG9 := HG.out; clear HG; rw [decide_eq_false z10] at HG9; have HG := Lib.hid HG9; clear HG9
                                  go_wp2_with (first | (go_at_call 30; (first | (with_reducible refine (within_is H0.out _).mono ?_) | (with_reducible refine (within_is H1.out _).mono ?_) | (with_reducible refine (within_is H2.out _).mono ?_) | (with_reducible refine (within_is H5.out _).mono ?_) | (with_reducible refine (within_is H6.out _).mono ?_) | (with_reducible refine (within_is H7.out _).mono ?_) | (with_reducible refine (within_is H8.out _).mono ?_) | (with_reducible refine (within_is H10.out _).mono ?_)); rintro e w1 ⟨rfl, rfl⟩) | (go_at_call 31; refine (HA.out _).mono ?_; rintro e w1 ⟨rfl, rfl⟩) | (go_at_call 32; refine (HT.out _).mono ?_; rintro e w1 ⟨rfl, rfl⟩))
                                  go_ret
                                  exact ⟨ret_int (by rw [HG.out]; rfl), (Below.refl _ _).alloc (Nat.le_refl _) _⟩
end Go.Proofs.YtokdfdinnaghmaaDoor
