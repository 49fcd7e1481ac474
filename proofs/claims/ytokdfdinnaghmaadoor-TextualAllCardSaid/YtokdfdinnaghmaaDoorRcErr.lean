/- Walk: which records are valid, in the reference. -/
import Derived.Test.YtokdfdinnaghmaaDoorRcM
import Derived.Deep.Cut
import Derived.Deep.CutRange
namespace Go.Proofs.YtokdfdinnaghmaaDoor
open Go.RowKit

theorem inb_true2 {n a b : Int} (h : inb n a b = true) : a ≤ n ∧ n ≤ b := by simpa [inb] using h
theorem in_any (n a b : Int) (w : World) : Calls Tryd.prog 35 #[.int .i64 n, .int .i64 a, .int .i64 b] w fun e w' => e = .returned (.bool (decide (a ≤ n) && decide (n ≤ b))) ∧ w = w' := by
  go_enter Tryd.func35, Tryd.ntmps35
  by_cases h : a ≤ n
  · by_cases h2 : n ≤ b
    · go_wp2
      go_ret
      exact ⟨by simp [h, h2], rfl⟩
    · go_wp2
      go_ret
      exact ⟨by simp [h2], rfl⟩
  · go_wp2
    go_ret
    exact ⟨by rw [decide_eq_false (by omega : ¬ a ≤ n), Bool.false_and]; rfl, rfl⟩
theorem in_is {n a b : Int} {v : Bool} (h : inb n a b = v) (w : World) : Calls Tryd.prog 35 #[.int .i64 n, .int .i64 a, .int .i64 b] w fun e w' => e = .returned (.bool v) ∧ w = w' := by
  subst h; exact in_any n a b w
theorem isT_num {b : ByteArray} {k : Int} (h : numB b.data.toList = true) : isT b k = true := by
  unfold isT
  rw [if_neg (by have := (num_len h).1; omega)]
  exact h
theorem isT_none {k : Int} (h3 : ¬ k = 3) (h4 : ¬ k = 4) : isT ⟨#[]⟩ k = false := by
  have h0 : (ByteArray.mk #[]).size = 0 := rfl
  unfold isT
  rw [if_pos h0]
  simp [h3, h4]
theorem isT_some {b : ByteArray} {k : Int} (h : numB b.data.toList = false) (h0 : b.size ≠ 0) : isT b k = false := by
  unfold isT
  rw [if_neg h0]
  exact h
set_option maxRecDepth 100000 in
set_option maxHeartbeats 16000000 in
theorem refErr_any (r : Rc) (ha : r.sa.size ≤ maxLen) (hb : r.sb.size ≤ maxLen) (w : World) :
    Calls Tryd.prog 22 #[.agg r.cells] w fun e w' => e = .returned (.int .i64 (chkR r)) ∧ Below w.heap.size w w' := by
  obtain ⟨L, hL, hL0, hx, hLs⟩ := rec_world w r
  obtain ⟨k0, k1, k2, k3, k4, k5, k6, k7, k8, k9, k10, k11⟩ := hx.cells
  have HL0 := Lib.hid hL0
  clear hL0 hx hLs
  obtain ⟨s0, s1, s2, sa, sb, s5, s6, s7, s8, b9, s10, b11⟩ := r
  simp only at ha hb k0 k1 k2 k3 k4 k5 k6 k7 k8 k9 k10 k11
  have hG : ∀ (v0 v1 v2 va vt v5 v6 v7 v8 v10 : Bool), inb s0 1 99 = v0 → inb s1 1 999999999 = v1 → inb s2 1 4 = v2 → numB sa.data.toList = va → isT sb s2 = vt → inb s5 0 12622780799 = v5 → inb s6 0 1099511627776 = v6 → inb s7 0 999999999 = v7 → inb s8 0 99 = v8 → inb s10 0 999 = v10 →
      chkR ⟨s0, s1, s2, sa, sb, s5, s6, s7, s8, b9, s10, b11⟩ = chkV v0 v1 v2 va vt v5 v6 (decide (s2 = 1)) (decide (604800 < s6)) (decide (12622780800 < s5 + s6)) v7 v8 (decide (s8 = 0)) (decide (s7 = 0)) b9 v10 b11 (decide (s10 = 0)) := by
    intro v0 v1 v2 va vt v5 v6 v7 v8 v10 e0 e1 e2 ea et e5 e6 e7 e8 e10
    subst e0 e1 e2 ea et e5 e6 e7 e8 e10
    rfl
  obtain ⟨v0, hv0⟩ : ∃ v, inb s0 1 99 = v := ⟨_, rfl⟩
  obtain ⟨v1, hv1⟩ : ∃ v, inb s1 1 999999999 = v := ⟨_, rfl⟩
  obtain ⟨v2, hv2⟩ : ∃ v, inb s2 1 4 = v := ⟨_, rfl⟩
  obtain ⟨va, hva⟩ : ∃ v, numB sa.data.toList = v := ⟨_, rfl⟩
  obtain ⟨vb, hvb⟩ : ∃ v, numB sb.data.toList = v := ⟨_, rfl⟩
  obtain ⟨vt, hvt⟩ : ∃ v, isT sb s2 = v := ⟨_, rfl⟩
  obtain ⟨v5, hv5⟩ : ∃ v, inb s5 0 12622780799 = v := ⟨_, rfl⟩
  obtain ⟨v6, hv6⟩ : ∃ v, inb s6 0 1099511627776 = v := ⟨_, rfl⟩
  obtain ⟨v7, hv7⟩ : ∃ v, inb s7 0 999999999 = v := ⟨_, rfl⟩
  obtain ⟨v8, hv8⟩ : ∃ v, inb s8 0 99 = v := ⟨_, rfl⟩
  obtain ⟨v10, hv10⟩ : ∃ v, inb s10 0 999 = v := ⟨_, rfl⟩
  have HG := Lib.hid (hG v0 v1 v2 va vt v5 v6 v7 v8 v10 hv0 hv1 hv2 hva hvt hv5 hv6 hv7 hv8 hv10)
  have HA : Hid (∀ w, Calls Tryd.prog 36 #[.string sa] w fun e w' => e = .returned (.bool va) ∧ w = w') := Lib.hid (fun w => by subst hva; exact refValid_any sa w ha)
  have HB : Hid (∀ w, Calls Tryd.prog 36 #[.string sb] w fun e w' => e = .returned (.bool vb) ∧ w = w') := Lib.hid (fun w => by subst hvb; exact refValid_any sb w hb)
  have HVB := Lib.hid hvb; have HVT := Lib.hid hvt
  have H0 := Lib.hid hv0; have H1 := Lib.hid hv1; have H2 := Lib.hid hv2; have H5 := Lib.hid hv5; have H6 := Lib.hid hv6; have H7 := Lib.hid hv7; have H8 := Lib.hid hv8; have H10 := Lib.hid hv10
  clear hG hv0 hv1 hv2 hva hvb hvt hv5 hv6 hv7 hv8 hv10 ha hb
  unfold Rc.cells at hL
  simp only at hL
  go_enter Tryd.func22, Tryd.ntmps22
  simp only [Rc.cells]
  cases v0
  · go_wp2_with (first | (go_at_call 35; (first | (with_reducible refine (in_is H0.out _).mono ?_) | (with_reducible refine (in_is H1.out _).mono ?_) | (with_reducible refine (in_is H2.out _).mono ?_) | (with_reducible refine (in_is H5.out _).mono ?_) | (with_reducible refine (in_is H6.out _).mono ?_) | (with_reducible refine (in_is H7.out _).mono ?_) | (with_reducible refine (in_is H8.out _).mono ?_) | (with_reducible refine (in_is H10.out _).mono ?_)); rintro e w1 ⟨rfl, rfl⟩) | (go_at_call 36; (first | (with_reducible refine (HA.out _).mono ?_) | (with_reducible refine (HB.out _).mono ?_)); rintro e w1 ⟨rfl, rfl⟩))
    go_ret
    exact ⟨ret_int (by rw [HG.out]; rfl), HL0.out⟩
  · cases v1
    · go_wp2_with (first | (go_at_call 35; (first | (with_reducible refine (in_is H0.out _).mono ?_) | (with_reducible refine (in_is H1.out _).mono ?_) | (with_reducible refine (in_is H2.out _).mono ?_) | (with_reducible refine (in_is H5.out _).mono ?_) | (with_reducible refine (in_is H6.out _).mono ?_) | (with_reducible refine (in_is H7.out _).mono ?_) | (with_reducible refine (in_is H8.out _).mono ?_) | (with_reducible refine (in_is H10.out _).mono ?_)); rintro e w1 ⟨rfl, rfl⟩) | (go_at_call 36; (first | (with_reducible refine (HA.out _).mono ?_) | (with_reducible refine (HB.out _).mono ?_)); rintro e w1 ⟨rfl, rfl⟩))
      go_ret
      exact ⟨ret_int (by rw [HG.out]; rfl), HL0.out⟩
    · skip
      go_upto_region 3 with (first | (go_at_call 35; (first | (with_reducible refine (in_is H0.out _).mono ?_) | (with_reducible refine (in_is H1.out _).mono ?_) | (with_reducible refine (in_is H2.out _).mono ?_) | (with_reducible refine (in_is H5.out _).mono ?_) | (with_reducible refine (in_is H6.out _).mono ?_) | (with_reducible refine (in_is H7.out _).mono ?_) | (with_reducible refine (in_is H8.out _).mono ?_) | (with_reducible refine (in_is H10.out _).mono ?_)); rintro e w1 ⟨rfl, rfl⟩) | (go_at_call 36; (first | (with_reducible refine (HA.out _).mono ?_) | (with_reducible refine (HB.out _).mono ?_)); rintro e w1 ⟨rfl, rfl⟩))
      cases v2
      · go_wp2_with (first | (go_at_call 35; (first | (with_reducible refine (in_is H0.out _).mono ?_) | (with_reducible refine (in_is H1.out _).mono ?_) | (with_reducible refine (in_is H2.out _).mono ?_) | (with_reducible refine (in_is H5.out _).mono ?_) | (with_reducible refine (in_is H6.out _).mono ?_) | (with_reducible refine (in_is H7.out _).mono ?_) | (with_reducible refine (in_is H8.out _).mono ?_) | (with_reducible refine (in_is H10.out _).mono ?_)); rintro e w1 ⟨rfl, rfl⟩) | (go_at_call 36; (first | (with_reducible refine (HA.out _).mono ?_) | (with_reducible refine (HB.out _).mono ?_)); rintro e w1 ⟨rfl, rfl⟩))
        go_ret
        exact ⟨ret_int (by rw [HG.out]; rfl), HL0.out⟩
      · skip
        go_upto_region 5 with (first | (go_at_call 35; (first | (with_reducible refine (in_is H0.out _).mono ?_) | (with_reducible refine (in_is H1.out _).mono ?_) | (with_reducible refine (in_is H2.out _).mono ?_) | (with_reducible refine (in_is H5.out _).mono ?_) | (with_reducible refine (in_is H6.out _).mono ?_) | (with_reducible refine (in_is H7.out _).mono ?_) | (with_reducible refine (in_is H8.out _).mono ?_) | (with_reducible refine (in_is H10.out _).mono ?_)); rintro e w1 ⟨rfl, rfl⟩) | (go_at_call 36; (first | (with_reducible refine (HA.out _).mono ?_) | (with_reducible refine (HB.out _).mono ?_)); rintro e w1 ⟨rfl, rfl⟩))
        cases va
        · go_wp2_with (first | (go_at_call 35; (first | (with_reducible refine (in_is H0.out _).mono ?_) | (with_reducible refine (in_is H1.out _).mono ?_) | (with_reducible refine (in_is H2.out _).mono ?_) | (with_reducible refine (in_is H5.out _).mono ?_) | (with_reducible refine (in_is H6.out _).mono ?_) | (with_reducible refine (in_is H7.out _).mono ?_) | (with_reducible refine (in_is H8.out _).mono ?_) | (with_reducible refine (in_is H10.out _).mono ?_)); rintro e w1 ⟨rfl, rfl⟩) | (go_at_call 36; (first | (with_reducible refine (HA.out _).mono ?_) | (with_reducible refine (HB.out _).mono ?_)); rintro e w1 ⟨rfl, rfl⟩))
          go_ret
          exact ⟨ret_int (by rw [HG.out]; rfl), HL0.out⟩
        · skip
          go_upto_region 7 with (first | (go_at_call 35; (first | (with_reducible refine (in_is H0.out _).mono ?_) | (with_reducible refine (in_is H1.out _).mono ?_) | (with_reducible refine (in_is H2.out _).mono ?_) | (with_reducible refine (in_is H5.out _).mono ?_) | (with_reducible refine (in_is H6.out _).mono ?_) | (with_reducible refine (in_is H7.out _).mono ?_) | (with_reducible refine (in_is H8.out _).mono ?_) | (with_reducible refine (in_is H10.out _).mono ?_)); rintro e w1 ⟨rfl, rfl⟩) | (go_at_call 36; (first | (with_reducible refine (HA.out _).mono ?_) | (with_reducible refine (HB.out _).mono ?_)); rintro e w1 ⟨rfl, rfl⟩))
          go_cut [24] from 25 to 43 (fun s wx => s = .bool (!vt) ∧ wx = L)
          case first =>
            cases vb
            · by_cases hz : sb.size = 0
              · obtain rfl : sb = ⟨#[]⟩ := by obtain ⟨d⟩ := sb; have : d = #[] := Array.eq_empty_of_size_eq_zero hz; rw [this]
                have hne : (ByteArray.mk #[]).toList.isEmpty = true := by first | decide | simp | rfl
                by_cases h3 : s2 = 3
                · subst h3
                  go_wp2_with (first | (go_at_call 35; (first | (with_reducible refine (in_is H0.out _).mono ?_) | (with_reducible refine (in_is H1.out _).mono ?_) | (with_reducible refine (in_is H2.out _).mono ?_) | (with_reducible refine (in_is H5.out _).mono ?_) | (with_reducible refine (in_is H6.out _).mono ?_) | (with_reducible refine (in_is H7.out _).mono ?_) | (with_reducible refine (in_is H8.out _).mono ?_) | (with_reducible refine (in_is H10.out _).mono ?_)); rintro e w1 ⟨rfl, rfl⟩) | (go_at_call 36; (first | (with_reducible refine (HA.out _).mono ?_) | (with_reducible refine (HB.out _).mono ?_)); rintro e w1 ⟨rfl, rfl⟩))
                  go_meet
                  case rel => exact ⟨by rw [← HVT.out]; rfl, rfl⟩
                · have h3b : (s2 == 3) = false := by simp [h3]
                  by_cases h4 : s2 = 4
                  · subst h4
                    go_wp2_with (first | (go_at_call 35; (first | (with_reducible refine (in_is H0.out _).mono ?_) | (with_reducible refine (in_is H1.out _).mono ?_) | (with_reducible refine (in_is H2.out _).mono ?_) | (with_reducible refine (in_is H5.out _).mono ?_) | (with_reducible refine (in_is H6.out _).mono ?_) | (with_reducible refine (in_is H7.out _).mono ?_) | (with_reducible refine (in_is H8.out _).mono ?_) | (with_reducible refine (in_is H10.out _).mono ?_)); rintro e w1 ⟨rfl, rfl⟩) | (go_at_call 36; (first | (with_reducible refine (HA.out _).mono ?_) | (with_reducible refine (HB.out _).mono ?_)); rintro e w1 ⟨rfl, rfl⟩))
                    go_meet
                    case rel => exact ⟨by rw [← HVT.out]; rfl, rfl⟩
                  · have h4b : (s2 == 4) = false := by simp [h4]
                    go_wp2_with (first | (go_at_call 35; (first | (with_reducible refine (in_is H0.out _).mono ?_) | (with_reducible refine (in_is H1.out _).mono ?_) | (with_reducible refine (in_is H2.out _).mono ?_) | (with_reducible refine (in_is H5.out _).mono ?_) | (with_reducible refine (in_is H6.out _).mono ?_) | (with_reducible refine (in_is H7.out _).mono ?_) | (with_reducible refine (in_is H8.out _).mono ?_) | (with_reducible refine (in_is H10.out _).mono ?_)); rintro e w1 ⟨rfl, rfl⟩) | (go_at_call 36; (first | (with_reducible refine (HA.out _).mono ?_) | (with_reducible refine (HB.out _).mono ?_)); rintro e w1 ⟨rfl, rfl⟩))
                    go_meet
                    case rel => exact ⟨by rw [← HVT.out]; rw [isT_none h3 h4]; simp [h3, h4], rfl⟩
              · have hne : sb.toList.isEmpty = false := empty_not hz
                go_wp2_with (first | (go_at_call 35; (first | (with_reducible refine (in_is H0.out _).mono ?_) | (with_reducible refine (in_is H1.out _).mono ?_) | (with_reducible refine (in_is H2.out _).mono ?_) | (with_reducible refine (in_is H5.out _).mono ?_) | (with_reducible refine (in_is H6.out _).mono ?_) | (with_reducible refine (in_is H7.out _).mono ?_) | (with_reducible refine (in_is H8.out _).mono ?_) | (with_reducible refine (in_is H10.out _).mono ?_)); rintro e w1 ⟨rfl, rfl⟩) | (go_at_call 36; (first | (with_reducible refine (HA.out _).mono ?_) | (with_reducible refine (HB.out _).mono ?_)); rintro e w1 ⟨rfl, rfl⟩))
                go_meet
                case rel => exact ⟨by rw [← HVT.out]; rw [isT_some HVB.out hz]; rfl, rfl⟩
            · go_wp2_with (first | (go_at_call 35; (first | (with_reducible refine (in_is H0.out _).mono ?_) | (with_reducible refine (in_is H1.out _).mono ?_) | (with_reducible refine (in_is H2.out _).mono ?_) | (with_reducible refine (in_is H5.out _).mono ?_) | (with_reducible refine (in_is H6.out _).mono ?_) | (with_reducible refine (in_is H7.out _).mono ?_) | (with_reducible refine (in_is H8.out _).mono ?_) | (with_reducible refine (in_is H10.out _).mono ?_)); rintro e w1 ⟨rfl, rfl⟩) | (go_at_call 36; (first | (with_reducible refine (HA.out _).mono ?_) | (with_reducible refine (HB.out _).mono ?_)); rintro e w1 ⟨rfl, rfl⟩))
              go_meet
              case rel => exact ⟨by rw [← HVT.out]; rw [isT_num HVB.out]; rfl, rfl⟩
          case rest =>
            obtain ⟨rfl, rfl⟩ := hcut
            cases vt
            · go_wp2_with (first | (go_at_call 35; (first | (with_reducible refine (in_is H0.out _).mono ?_) | (with_reducible refine (in_is H1.out _).mono ?_) | (with_reducible refine (in_is H2.out _).mono ?_) | (with_reducible refine (in_is H5.out _).mono ?_) | (with_reducible refine (in_is H6.out _).mono ?_) | (with_reducible refine (in_is H7.out _).mono ?_) | (with_reducible refine (in_is H8.out _).mono ?_) | (with_reducible refine (in_is H10.out _).mono ?_)); rintro e w1 ⟨rfl, rfl⟩) | (go_at_call 36; (first | (with_reducible refine (HA.out _).mono ?_) | (with_reducible refine (HB.out _).mono ?_)); rintro e w1 ⟨rfl, rfl⟩))
              go_ret
              exact ⟨ret_int (by rw [HG.out]; rfl), HL0.out⟩
            · skip
              go_upto_region 9 with (first | (go_at_call 35; (first | (with_reducible refine (in_is H0.out _).mono ?_) | (with_reducible refine (in_is H1.out _).mono ?_) | (with_reducible refine (in_is H2.out _).mono ?_) | (with_reducible refine (in_is H5.out _).mono ?_) | (with_reducible refine (in_is H6.out _).mono ?_) | (with_reducible refine (in_is H7.out _).mono ?_) | (with_reducible refine (in_is H8.out _).mono ?_) | (with_reducible refine (in_is H10.out _).mono ?_)); rintro e w1 ⟨rfl, rfl⟩) | (go_at_call 36; (first | (with_reducible refine (HA.out _).mono ?_) | (with_reducible refine (HB.out _).mono ?_)); rintro e w1 ⟨rfl, rfl⟩))
              cases v5
              · go_wp2_with (first | (go_at_call 35; (first | (with_reducible refine (in_is H0.out _).mono ?_) | (with_reducible refine (in_is H1.out _).mono ?_) | (with_reducible refine (in_is H2.out _).mono ?_) | (with_reducible refine (in_is H5.out _).mono ?_) | (with_reducible refine (in_is H6.out _).mono ?_) | (with_reducible refine (in_is H7.out _).mono ?_) | (with_reducible refine (in_is H8.out _).mono ?_) | (with_reducible refine (in_is H10.out _).mono ?_)); rintro e w1 ⟨rfl, rfl⟩) | (go_at_call 36; (first | (with_reducible refine (HA.out _).mono ?_) | (with_reducible refine (HB.out _).mono ?_)); rintro e w1 ⟨rfl, rfl⟩))
                go_ret
                exact ⟨ret_int (by rw [HG.out]; rfl), HL0.out⟩
              · skip
                go_upto_region 11 with (first | (go_at_call 35; (first | (with_reducible refine (in_is H0.out _).mono ?_) | (with_reducible refine (in_is H1.out _).mono ?_) | (with_reducible refine (in_is H2.out _).mono ?_) | (with_reducible refine (in_is H5.out _).mono ?_) | (with_reducible refine (in_is H6.out _).mono ?_) | (with_reducible refine (in_is H7.out _).mono ?_) | (with_reducible refine (in_is H8.out _).mono ?_) | (with_reducible refine (in_is H10.out _).mono ?_)); rintro e w1 ⟨rfl, rfl⟩) | (go_at_call 36; (first | (with_reducible refine (HA.out _).mono ?_) | (with_reducible refine (HB.out _).mono ?_)); rintro e w1 ⟨rfl, rfl⟩))
                have g5 := inb_true2 H5.out
                obtain ⟨g51, g52⟩ := g5
                cases v6
                · go_wp2_with (first | (go_at_call 35; (first | (with_reducible refine (in_is H0.out _).mono ?_) | (with_reducible refine (in_is H1.out _).mono ?_) | (with_reducible refine (in_is H2.out _).mono ?_) | (with_reducible refine (in_is H5.out _).mono ?_) | (with_reducible refine (in_is H6.out _).mono ?_) | (with_reducible refine (in_is H7.out _).mono ?_) | (with_reducible refine (in_is H8.out _).mono ?_) | (with_reducible refine (in_is H10.out _).mono ?_)); rintro e w1 ⟨rfl, rfl⟩) | (go_at_call 36; (first | (with_reducible refine (HA.out _).mono ?_) | (with_reducible refine (HB.out _).mono ?_)); rintro e w1 ⟨rfl, rfl⟩))
                  go_ret
                  exact ⟨ret_int (by rw [HG.out]; rfl), HL0.out⟩
                · have g6 := inb_true2 H6.out
                  obtain ⟨g61, g62⟩ := g6
                  by_cases hk : s2 = 1
                  · skip
                    subst hk
                    have HG9 := HG.out; clear HG; (try rw [decide_eq_true (rfl : (1 : Int) = 1)] at HG9); have HG := Lib.hid HG9; clear HG9
                    by_cases hu : 604800 < s6
                    · skip
                      have HG9 := HG.out; clear HG; rw [decide_eq_true hu] at HG9; have HG := Lib.hid HG9; clear HG9
                      go_wp2_with (first | (go_at_call 35; (first | (with_reducible refine (in_is H0.out _).mono ?_) | (with_reducible refine (in_is H1.out _).mono ?_) | (with_reducible refine (in_is H2.out _).mono ?_) | (with_reducible refine (in_is H5.out _).mono ?_) | (with_reducible refine (in_is H6.out _).mono ?_) | (with_reducible refine (in_is H7.out _).mono ?_) | (with_reducible refine (in_is H8.out _).mono ?_) | (with_reducible refine (in_is H10.out _).mono ?_)); rintro e w1 ⟨rfl, rfl⟩) | (go_at_call 36; (first | (with_reducible refine (HA.out _).mono ?_) | (with_reducible refine (HB.out _).mono ?_)); rintro e w1 ⟨rfl, rfl⟩))
                      go_ret
                      exact ⟨ret_int (by rw [HG.out]; rfl), HL0.out⟩
                    · skip
                      have HG9 := HG.out; clear HG; rw [decide_eq_false hu] at HG9; have HG := Lib.hid HG9; clear HG9
                      go_upto_region 13 with (first | (go_at_call 35; (first | (with_reducible refine (in_is H0.out _).mono ?_) | (with_reducible refine (in_is H1.out _).mono ?_) | (with_reducible refine (in_is H2.out _).mono ?_) | (with_reducible refine (in_is H5.out _).mono ?_) | (with_reducible refine (in_is H6.out _).mono ?_) | (with_reducible refine (in_is H7.out _).mono ?_) | (with_reducible refine (in_is H8.out _).mono ?_) | (with_reducible refine (in_is H10.out _).mono ?_)); rintro e w1 ⟨rfl, rfl⟩) | (go_at_call 36; (first | (with_reducible refine (HA.out _).mono ?_) | (with_reducible refine (HB.out _).mono ?_)); rintro e w1 ⟨rfl, rfl⟩))
                      by_cases hq : 12622780800 < s5 + s6
                      · skip
                        have HG9 := HG.out; clear HG; rw [decide_eq_true hq] at HG9; have HG := Lib.hid HG9; clear HG9
                        go_wp2_with (first | (go_at_call 35; (first | (with_reducible refine (in_is H0.out _).mono ?_) | (with_reducible refine (in_is H1.out _).mono ?_) | (with_reducible refine (in_is H2.out _).mono ?_) | (with_reducible refine (in_is H5.out _).mono ?_) | (with_reducible refine (in_is H6.out _).mono ?_) | (with_reducible refine (in_is H7.out _).mono ?_) | (with_reducible refine (in_is H8.out _).mono ?_) | (with_reducible refine (in_is H10.out _).mono ?_)); rintro e w1 ⟨rfl, rfl⟩) | (go_at_call 36; (first | (with_reducible refine (HA.out _).mono ?_) | (with_reducible refine (HB.out _).mono ?_)); rintro e w1 ⟨rfl, rfl⟩))
                        go_ret
                        exact ⟨ret_int (by rw [HG.out]; rfl), HL0.out⟩
                      · skip
                        have HG9 := HG.out; clear HG; rw [decide_eq_false hq] at HG9; have HG := Lib.hid HG9; clear HG9
                        go_upto_region 15 with (first | (go_at_call 35; (first | (with_reducible refine (in_is H0.out _).mono ?_) | (with_reducible refine (in_is H1.out _).mono ?_) | (with_reducible refine (in_is H2.out _).mono ?_) | (with_reducible refine (in_is H5.out _).mono ?_) | (with_reducible refine (in_is H6.out _).mono ?_) | (with_reducible refine (in_is H7.out _).mono ?_) | (with_reducible refine (in_is H8.out _).mono ?_) | (with_reducible refine (in_is H10.out _).mono ?_)); rintro e w1 ⟨rfl, rfl⟩) | (go_at_call 36; (first | (with_reducible refine (HA.out _).mono ?_) | (with_reducible refine (HB.out _).mono ?_)); rintro e w1 ⟨rfl, rfl⟩))
                        cases v7
                        · go_wp2_with (first | (go_at_call 35; (first | (with_reducible refine (in_is H0.out _).mono ?_) | (with_reducible refine (in_is H1.out _).mono ?_) | (with_reducible refine (in_is H2.out _).mono ?_) | (with_reducible refine (in_is H5.out _).mono ?_) | (with_reducible refine (in_is H6.out _).mono ?_) | (with_reducible refine (in_is H7.out _).mono ?_) | (with_reducible refine (in_is H8.out _).mono ?_) | (with_reducible refine (in_is H10.out _).mono ?_)); rintro e w1 ⟨rfl, rfl⟩) | (go_at_call 36; (first | (with_reducible refine (HA.out _).mono ?_) | (with_reducible refine (HB.out _).mono ?_)); rintro e w1 ⟨rfl, rfl⟩))
                          go_ret
                          exact ⟨ret_int (by rw [HG.out]; rfl), HL0.out⟩
                        · cases v8
                          · go_wp2_with (first | (go_at_call 35; (first | (with_reducible refine (in_is H0.out _).mono ?_) | (with_reducible refine (in_is H1.out _).mono ?_) | (with_reducible refine (in_is H2.out _).mono ?_) | (with_reducible refine (in_is H5.out _).mono ?_) | (with_reducible refine (in_is H6.out _).mono ?_) | (with_reducible refine (in_is H7.out _).mono ?_) | (with_reducible refine (in_is H8.out _).mono ?_) | (with_reducible refine (in_is H10.out _).mono ?_)); rintro e w1 ⟨rfl, rfl⟩) | (go_at_call 36; (first | (with_reducible refine (HA.out _).mono ?_) | (with_reducible refine (HB.out _).mono ?_)); rintro e w1 ⟨rfl, rfl⟩))
                            go_ret
                            exact ⟨ret_int (by rw [HG.out]; rfl), HL0.out⟩
                          · skip
                            go_upto_region 17 with (first | (go_at_call 35; (first | (with_reducible refine (in_is H0.out _).mono ?_) | (with_reducible refine (in_is H1.out _).mono ?_) | (with_reducible refine (in_is H2.out _).mono ?_) | (with_reducible refine (in_is H5.out _).mono ?_) | (with_reducible refine (in_is H6.out _).mono ?_) | (with_reducible refine (in_is H7.out _).mono ?_) | (with_reducible refine (in_is H8.out _).mono ?_) | (with_reducible refine (in_is H10.out _).mono ?_)); rintro e w1 ⟨rfl, rfl⟩) | (go_at_call 36; (first | (with_reducible refine (HA.out _).mono ?_) | (with_reducible refine (HB.out _).mono ?_)); rintro e w1 ⟨rfl, rfl⟩))
                            by_cases z8 : s8 = 0
                            · skip
                              subst z8
                              have HG9 := HG.out; clear HG; (try rw [decide_eq_true (rfl : (0 : Int) = 0)] at HG9); have HG := Lib.hid HG9; clear HG9
                              by_cases z7 : s7 = 0
                              · skip
                                subst z7
                                have HG9 := HG.out; clear HG; (try rw [decide_eq_true (rfl : (0 : Int) = 0)] at HG9); have HG := Lib.hid HG9; clear HG9
                                cases b9
                                · skip
                                  cases v10
                                  · go_wp2_with (first | (go_at_call 35; (first | (with_reducible refine (in_is H0.out _).mono ?_) | (with_reducible refine (in_is H1.out _).mono ?_) | (with_reducible refine (in_is H2.out _).mono ?_) | (with_reducible refine (in_is H5.out _).mono ?_) | (with_reducible refine (in_is H6.out _).mono ?_) | (with_reducible refine (in_is H7.out _).mono ?_) | (with_reducible refine (in_is H8.out _).mono ?_) | (with_reducible refine (in_is H10.out _).mono ?_)); rintro e w1 ⟨rfl, rfl⟩) | (go_at_call 36; (first | (with_reducible refine (HA.out _).mono ?_) | (with_reducible refine (HB.out _).mono ?_)); rintro e w1 ⟨rfl, rfl⟩))
                                    go_ret
                                    exact ⟨ret_int (by rw [HG.out]; rfl), HL0.out⟩
                                  · cases b11
                                    · go_wp2_with (first | (go_at_call 35; (first | (with_reducible refine (in_is H0.out _).mono ?_) | (with_reducible refine (in_is H1.out _).mono ?_) | (with_reducible refine (in_is H2.out _).mono ?_) | (with_reducible refine (in_is H5.out _).mono ?_) | (with_reducible refine (in_is H6.out _).mono ?_) | (with_reducible refine (in_is H7.out _).mono ?_) | (with_reducible refine (in_is H8.out _).mono ?_) | (with_reducible refine (in_is H10.out _).mono ?_)); rintro e w1 ⟨rfl, rfl⟩) | (go_at_call 36; (first | (with_reducible refine (HA.out _).mono ?_) | (with_reducible refine (HB.out _).mono ?_)); rintro e w1 ⟨rfl, rfl⟩))
                                      go_ret
                                      exact ⟨ret_int (by rw [HG.out]; rfl), HL0.out⟩
                                    · by_cases z10 : s10 = 0
                                      · skip
                                        subst z10
                                        have HG9 := HG.out; clear HG; (try rw [decide_eq_true (rfl : (0 : Int) = 0)] at HG9); have HG := Lib.hid HG9; clear HG9
                                        go_wp2_with (first | (go_at_call 35; (first | (with_reducible refine (in_is H0.out _).mono ?_) | (with_reducible refine (in_is H1.out _).mono ?_) | (with_reducible refine (in_is H2.out _).mono ?_) | (with_reducible refine (in_is H5.out _).mono ?_) | (with_reducible refine (in_is H6.out _).mono ?_) | (with_reducible refine (in_is H7.out _).mono ?_) | (with_reducible refine (in_is H8.out _).mono ?_) | (with_reducible refine (in_is H10.out _).mono ?_)); rintro e w1 ⟨rfl, rfl⟩) | (go_at_call 36; (first | (with_reducible refine (HA.out _).mono ?_) | (with_reducible refine (HB.out _).mono ?_)); rintro e w1 ⟨rfl, rfl⟩))
                                        go_ret
                                        exact ⟨ret_int (by rw [HG.out]; rfl), HL0.out⟩
                                      · skip
                                        have HG9 := HG.out; clear HG; rw [decide_eq_false z10] at HG9; have HG := Lib.hid HG9; clear HG9
                                        have z10b : (s10 == 0) = false := by simp [z10]
                                        go_wp2_with (first | (go_at_call 35; (first | (with_reducible refine (in_is H0.out _).mono ?_) | (with_reducible refine (in_is H1.out _).mono ?_) | (with_reducible refine (in_is H2.out _).mono ?_) | (with_reducible refine (in_is H5.out _).mono ?_) | (with_reducible refine (in_is H6.out _).mono ?_) | (with_reducible refine (in_is H7.out _).mono ?_) | (with_reducible refine (in_is H8.out _).mono ?_) | (with_reducible refine (in_is H10.out _).mono ?_)); rintro e w1 ⟨rfl, rfl⟩) | (go_at_call 36; (first | (with_reducible refine (HA.out _).mono ?_) | (with_reducible refine (HB.out _).mono ?_)); rintro e w1 ⟨rfl, rfl⟩))
                                        go_ret
                                        exact ⟨ret_int (by rw [HG.out]; rfl), HL0.out⟩
                                · go_wp2_with (first | (go_at_call 35; (first | (with_reducible refine (in_is H0.out _).mono ?_) | (with_reducible refine (in_is H1.out _).mono ?_) | (with_reducible refine (in_is H2.out _).mono ?_) | (with_reducible refine (in_is H5.out _).mono ?_) | (with_reducible refine (in_is H6.out _).mono ?_) | (with_reducible refine (in_is H7.out _).mono ?_) | (with_reducible refine (in_is H8.out _).mono ?_) | (with_reducible refine (in_is H10.out _).mono ?_)); rintro e w1 ⟨rfl, rfl⟩) | (go_at_call 36; (first | (with_reducible refine (HA.out _).mono ?_) | (with_reducible refine (HB.out _).mono ?_)); rintro e w1 ⟨rfl, rfl⟩))
                                  go_ret
                                  exact ⟨ret_int (by rw [HG.out]; rfl), HL0.out⟩
                              · skip
                                have HG9 := HG.out; clear HG; rw [decide_eq_false z7] at HG9; have HG := Lib.hid HG9; clear HG9
                                have z7b : (s7 == 0) = false := by simp [z7]
                                go_wp2_with (first | (go_at_call 35; (first | (with_reducible refine (in_is H0.out _).mono ?_) | (with_reducible refine (in_is H1.out _).mono ?_) | (with_reducible refine (in_is H2.out _).mono ?_) | (with_reducible refine (in_is H5.out _).mono ?_) | (with_reducible refine (in_is H6.out _).mono ?_) | (with_reducible refine (in_is H7.out _).mono ?_) | (with_reducible refine (in_is H8.out _).mono ?_) | (with_reducible refine (in_is H10.out _).mono ?_)); rintro e w1 ⟨rfl, rfl⟩) | (go_at_call 36; (first | (with_reducible refine (HA.out _).mono ?_) | (with_reducible refine (HB.out _).mono ?_)); rintro e w1 ⟨rfl, rfl⟩))
                                go_ret
                                exact ⟨ret_int (by rw [HG.out]; rfl), HL0.out⟩
                            · skip
                              have HG9 := HG.out; clear HG; rw [decide_eq_false z8] at HG9; have HG := Lib.hid HG9; clear HG9
                              have z8b : (s8 == 0) = false := by simp [z8]
                              by_cases z7 : s7 = 0
                              · skip
                                subst z7
                                have HG9 := HG.out; clear HG; (try rw [decide_eq_true (rfl : (0 : Int) = 0)] at HG9); have HG := Lib.hid HG9; clear HG9
                                go_wp2_with (first | (go_at_call 35; (first | (with_reducible refine (in_is H0.out _).mono ?_) | (with_reducible refine (in_is H1.out _).mono ?_) | (with_reducible refine (in_is H2.out _).mono ?_) | (with_reducible refine (in_is H5.out _).mono ?_) | (with_reducible refine (in_is H6.out _).mono ?_) | (with_reducible refine (in_is H7.out _).mono ?_) | (with_reducible refine (in_is H8.out _).mono ?_) | (with_reducible refine (in_is H10.out _).mono ?_)); rintro e w1 ⟨rfl, rfl⟩) | (go_at_call 36; (first | (with_reducible refine (HA.out _).mono ?_) | (with_reducible refine (HB.out _).mono ?_)); rintro e w1 ⟨rfl, rfl⟩))
                                go_ret
                                exact ⟨ret_int (by rw [HG.out]; rfl), HL0.out⟩
                              · skip
                                have HG9 := HG.out; clear HG; rw [decide_eq_false z7] at HG9; have HG := Lib.hid HG9; clear HG9
                                have z7b : (s7 == 0) = false := by simp [z7]
                                cases b9
                                · skip
                                  cases v10
                                  · go_wp2_with (first | (go_at_call 35; (first | (with_reducible refine (in_is H0.out _).mono ?_) | (with_reducible refine (in_is H1.out _).mono ?_) | (with_reducible refine (in_is H2.out _).mono ?_) | (with_reducible refine (in_is H5.out _).mono ?_) | (with_reducible refine (in_is H6.out _).mono ?_) | (with_reducible refine (in_is H7.out _).mono ?_) | (with_reducible refine (in_is H8.out _).mono ?_) | (with_reducible refine (in_is H10.out _).mono ?_)); rintro e w1 ⟨rfl, rfl⟩) | (go_at_call 36; (first | (with_reducible refine (HA.out _).mono ?_) | (with_reducible refine (HB.out _).mono ?_)); rintro e w1 ⟨rfl, rfl⟩))
                                    go_ret
                                    exact ⟨ret_int (by rw [HG.out]; rfl), HL0.out⟩
                                  · cases b11
                                    · go_wp2_with (first | (go_at_call 35; (first | (with_reducible refine (in_is H0.out _).mono ?_) | (with_reducible refine (in_is H1.out _).mono ?_) | (with_reducible refine (in_is H2.out _).mono ?_) | (with_reducible refine (in_is H5.out _).mono ?_) | (with_reducible refine (in_is H6.out _).mono ?_) | (with_reducible refine (in_is H7.out _).mono ?_) | (with_reducible refine (in_is H8.out _).mono ?_) | (with_reducible refine (in_is H10.out _).mono ?_)); rintro e w1 ⟨rfl, rfl⟩) | (go_at_call 36; (first | (with_reducible refine (HA.out _).mono ?_) | (with_reducible refine (HB.out _).mono ?_)); rintro e w1 ⟨rfl, rfl⟩))
                                      go_ret
                                      exact ⟨ret_int (by rw [HG.out]; rfl), HL0.out⟩
                                    · by_cases z10 : s10 = 0
                                      · skip
                                        subst z10
                                        have HG9 := HG.out; clear HG; (try rw [decide_eq_true (rfl : (0 : Int) = 0)] at HG9); have HG := Lib.hid HG9; clear HG9
                                        go_wp2_with (first | (go_at_call 35; (first | (with_reducible refine (in_is H0.out _).mono ?_) | (with_reducible refine (in_is H1.out _).mono ?_) | (with_reducible refine (in_is H2.out _).mono ?_) | (with_reducible refine (in_is H5.out _).mono ?_) | (with_reducible refine (in_is H6.out _).mono ?_) | (with_reducible refine (in_is H7.out _).mono ?_) | (with_reducible refine (in_is H8.out _).mono ?_) | (with_reducible refine (in_is H10.out _).mono ?_)); rintro e w1 ⟨rfl, rfl⟩) | (go_at_call 36; (first | (with_reducible refine (HA.out _).mono ?_) | (with_reducible refine (HB.out _).mono ?_)); rintro e w1 ⟨rfl, rfl⟩))
                                        go_ret
                                        exact ⟨ret_int (by rw [HG.out]; rfl), HL0.out⟩
                                      · skip
                                        have HG9 := HG.out; clear HG; rw [decide_eq_false z10] at HG9; have HG := Lib.hid HG9; clear HG9
                                        have z10b : (s10 == 0) = false := by simp [z10]
                                        go_wp2_with (first | (go_at_call 35; (first | (with_reducible refine (in_is H0.out _).mono ?_) | (with_reducible refine (in_is H1.out _).mono ?_) | (with_reducible refine (in_is H2.out _).mono ?_) | (with_reducible refine (in_is H5.out _).mono ?_) | (with_reducible refine (in_is H6.out _).mono ?_) | (with_reducible refine (in_is H7.out _).mono ?_) | (with_reducible refine (in_is H8.out _).mono ?_) | (with_reducible refine (in_is H10.out _).mono ?_)); rintro e w1 ⟨rfl, rfl⟩) | (go_at_call 36; (first | (with_reducible refine (HA.out _).mono ?_) | (with_reducible refine (HB.out _).mono ?_)); rintro e w1 ⟨rfl, rfl⟩))
                                        go_ret
                                        exact ⟨ret_int (by rw [HG.out]; rfl), HL0.out⟩
                                · skip
                                  cases v10
                                  · go_wp2_with (first | (go_at_call 35; (first | (with_reducible refine (in_is H0.out _).mono ?_) | (with_reducible refine (in_is H1.out _).mono ?_) | (with_reducible refine (in_is H2.out _).mono ?_) | (with_reducible refine (in_is H5.out _).mono ?_) | (with_reducible refine (in_is H6.out _).mono ?_) | (with_reducible refine (in_is H7.out _).mono ?_) | (with_reducible refine (in_is H8.out _).mono ?_) | (with_reducible refine (in_is H10.out _).mono ?_)); rintro e w1 ⟨rfl, rfl⟩) | (go_at_call 36; (first | (with_reducible refine (HA.out _).mono ?_) | (with_reducible refine (HB.out _).mono ?_)); rintro e w1 ⟨rfl, rfl⟩))
                                    go_ret
                                    exact ⟨ret_int (by rw [HG.out]; rfl), HL0.out⟩
                                  · cases b11
                                    · go_wp2_with (first | (go_at_call 35; (first | (with_reducible refine (in_is H0.out _).mono ?_) | (with_reducible refine (in_is H1.out _).mono ?_) | (with_reducible refine (in_is H2.out _).mono ?_) | (with_reducible refine (in_is H5.out _).mono ?_) | (with_reducible refine (in_is H6.out _).mono ?_) | (with_reducible refine (in_is H7.out _).mono ?_) | (with_reducible refine (in_is H8.out _).mono ?_) | (with_reducible refine (in_is H10.out _).mono ?_)); rintro e w1 ⟨rfl, rfl⟩) | (go_at_call 36; (first | (with_reducible refine (HA.out _).mono ?_) | (with_reducible refine (HB.out _).mono ?_)); rintro e w1 ⟨rfl, rfl⟩))
                                      go_ret
                                      exact ⟨ret_int (by rw [HG.out]; rfl), HL0.out⟩
                                    · by_cases z10 : s10 = 0
                                      · skip
                                        subst z10
                                        have HG9 := HG.out; clear HG; (try rw [decide_eq_true (rfl : (0 : Int) = 0)] at HG9); have HG := Lib.hid HG9; clear HG9
                                        go_wp2_with (first | (go_at_call 35; (first | (with_reducible refine (in_is H0.out _).mono ?_) | (with_reducible refine (in_is H1.out _).mono ?_) | (with_reducible refine (in_is H2.out _).mono ?_) | (with_reducible refine (in_is H5.out _).mono ?_) | (with_reducible refine (in_is H6.out _).mono ?_) | (with_reducible refine (in_is H7.out _).mono ?_) | (with_reducible refine (in_is H8.out _).mono ?_) | (with_reducible refine (in_is H10.out _).mono ?_)); rintro e w1 ⟨rfl, rfl⟩) | (go_at_call 36; (first | (with_reducible refine (HA.out _).mono ?_) | (with_reducible refine (HB.out _).mono ?_)); rintro e w1 ⟨rfl, rfl⟩))
                                        go_ret
                                        exact ⟨ret_int (by rw [HG.out]; rfl), HL0.out⟩
                                      · skip
                                        have HG9 := HG.out; clear HG; rw [decide_eq_false z10] at HG9; have HG := Lib.hid HG9; clear HG9
                                        have z10b : (s10 == 0) = false := by simp [z10]
                                        go_wp2_with (first | (go_at_call 35; (first | (with_reducible refine (in_is H0.out _).mono ?_) | (with_reducible refine (in_is H1.out _).mono ?_) | (with_reducible refine (in_is H2.out _).mono ?_) | (with_reducible refine (in_is H5.out _).mono ?_) | (with_reducible refine (in_is H6.out _).mono ?_) | (with_reducible refine (in_is H7.out _).mono ?_) | (with_reducible refine (in_is H8.out _).mono ?_) | (with_reducible refine (in_is H10.out _).mono ?_)); rintro e w1 ⟨rfl, rfl⟩) | (go_at_call 36; (first | (with_reducible refine (HA.out _).mono ?_) | (with_reducible refine (HB.out _).mono ?_)); rintro e w1 ⟨rfl, rfl⟩))
                                        go_ret
                                        exact ⟨ret_int (by rw [HG.out]; rfl), HL0.out⟩
                  · skip
                    have HG9 := HG.out; clear HG; rw [decide_eq_false hk] at HG9; have HG := Lib.hid HG9; clear HG9
                    have hk2 : (s2 == 1) = false := by simp [hk]
                    go_upto_region 15 with (first | (go_at_call 35; (first | (with_reducible refine (in_is H0.out _).mono ?_) | (with_reducible refine (in_is H1.out _).mono ?_) | (with_reducible refine (in_is H2.out _).mono ?_) | (with_reducible refine (in_is H5.out _).mono ?_) | (with_reducible refine (in_is H6.out _).mono ?_) | (with_reducible refine (in_is H7.out _).mono ?_) | (with_reducible refine (in_is H8.out _).mono ?_) | (with_reducible refine (in_is H10.out _).mono ?_)); rintro e w1 ⟨rfl, rfl⟩) | (go_at_call 36; (first | (with_reducible refine (HA.out _).mono ?_) | (with_reducible refine (HB.out _).mono ?_)); rintro e w1 ⟨rfl, rfl⟩))
                    cases v7
                    · go_wp2_with (first | (go_at_call 35; (first | (with_reducible refine (in_is H0.out _).mono ?_) | (with_reducible refine (in_is H1.out _).mono ?_) | (with_reducible refine (in_is H2.out _).mono ?_) | (with_reducible refine (in_is H5.out _).mono ?_) | (with_reducible refine (in_is H6.out _).mono ?_) | (with_reducible refine (in_is H7.out _).mono ?_) | (with_reducible refine (in_is H8.out _).mono ?_) | (with_reducible refine (in_is H10.out _).mono ?_)); rintro e w1 ⟨rfl, rfl⟩) | (go_at_call 36; (first | (with_reducible refine (HA.out _).mono ?_) | (with_reducible refine (HB.out _).mono ?_)); rintro e w1 ⟨rfl, rfl⟩))
                      go_ret
                      exact ⟨ret_int (by rw [HG.out]; rfl), HL0.out⟩
                    · cases v8
                      · go_wp2_with (first | (go_at_call 35; (first | (with_reducible refine (in_is H0.out _).mono ?_) | (with_reducible refine (in_is H1.out _).mono ?_) | (with_reducible refine (in_is H2.out _).mono ?_) | (with_reducible refine (in_is H5.out _).mono ?_) | (with_reducible refine (in_is H6.out _).mono ?_) | (with_reducible refine (in_is H7.out _).mono ?_) | (with_reducible refine (in_is H8.out _).mono ?_) | (with_reducible refine (in_is H10.out _).mono ?_)); rintro e w1 ⟨rfl, rfl⟩) | (go_at_call 36; (first | (with_reducible refine (HA.out _).mono ?_) | (with_reducible refine (HB.out _).mono ?_)); rintro e w1 ⟨rfl, rfl⟩))
                        go_ret
                        exact ⟨ret_int (by rw [HG.out]; rfl), HL0.out⟩
                      · skip
                        go_upto_region 17 with (first | (go_at_call 35; (first | (with_reducible refine (in_is H0.out _).mono ?_) | (with_reducible refine (in_is H1.out _).mono ?_) | (with_reducible refine (in_is H2.out _).mono ?_) | (with_reducible refine (in_is H5.out _).mono ?_) | (with_reducible refine (in_is H6.out _).mono ?_) | (with_reducible refine (in_is H7.out _).mono ?_) | (with_reducible refine (in_is H8.out _).mono ?_) | (with_reducible refine (in_is H10.out _).mono ?_)); rintro e w1 ⟨rfl, rfl⟩) | (go_at_call 36; (first | (with_reducible refine (HA.out _).mono ?_) | (with_reducible refine (HB.out _).mono ?_)); rintro e w1 ⟨rfl, rfl⟩))
                        by_cases z8 : s8 = 0
                        · skip
                          subst z8
                          have HG9 := HG.out; clear HG; (try rw [decide_eq_true (rfl : (0 : Int) = 0)] at HG9); have HG := Lib.hid HG9; clear HG9
                          by_cases z7 : s7 = 0
                          · skip
                            subst z7
                            have HG9 := HG.out; clear HG; (try rw [decide_eq_true (rfl : (0 : Int) = 0)] at HG9); have HG := Lib.hid HG9; clear HG9
                            cases b9
                            · skip
                              cases v10
                              · go_wp2_with (first | (go_at_call 35; (first | (with_reducible refine (in_is H0.out _).mono ?_) | (with_reducible refine (in_is H1.out _).mono ?_) | (with_reducible refine (in_is H2.out _).mono ?_) | (with_reducible refine (in_is H5.out _).mono ?_) | (with_reducible refine (in_is H6.out _).mono ?_) | (with_reducible refine (in_is H7.out _).mono ?_) | (with_reducible refine (in_is H8.out _).mono ?_) | (with_reducible refine (in_is H10.out _).mono ?_)); rintro e w1 ⟨rfl, rfl⟩) | (go_at_call 36; (first | (with_reducible refine (HA.out _).mono ?_) | (with_reducible refine (HB.out _).mono ?_)); rintro e w1 ⟨rfl, rfl⟩))
                                go_ret
                                exact ⟨ret_int (by rw [HG.out]; rfl), HL0.out⟩
                              · cases b11
                                · go_wp2_with (first | (go_at_call 35; (first | (with_reducible refine (in_is H0.out _).mono ?_) | (with_reducible refine (in_is H1.out _).mono ?_) | (with_reducible refine (in_is H2.out _).mono ?_) | (with_reducible refine (in_is H5.out _).mono ?_) | (with_reducible refine (in_is H6.out _).mono ?_) | (with_reducible refine (in_is H7.out _).mono ?_) | (with_reducible refine (in_is H8.out _).mono ?_) | (with_reducible refine (in_is H10.out _).mono ?_)); rintro e w1 ⟨rfl, rfl⟩) | (go_at_call 36; (first | (with_reducible refine (HA.out _).mono ?_) | (with_reducible refine (HB.out _).mono ?_)); rintro e w1 ⟨rfl, rfl⟩))
                                  go_ret
                                  exact ⟨ret_int (by rw [HG.out]; rfl), HL0.out⟩
                                · by_cases z10 : s10 = 0
                                  · skip
                                    subst z10
                                    have HG9 := HG.out; clear HG; (try rw [decide_eq_true (rfl : (0 : Int) = 0)] at HG9); have HG := Lib.hid HG9; clear HG9
                                    go_wp2_with (first | (go_at_call 35; (first | (with_reducible refine (in_is H0.out _).mono ?_) | (with_reducible refine (in_is H1.out _).mono ?_) | (with_reducible refine (in_is H2.out _).mono ?_) | (with_reducible refine (in_is H5.out _).mono ?_) | (with_reducible refine (in_is H6.out _).mono ?_) | (with_reducible refine (in_is H7.out _).mono ?_) | (with_reducible refine (in_is H8.out _).mono ?_) | (with_reducible refine (in_is H10.out _).mono ?_)); rintro e w1 ⟨rfl, rfl⟩) | (go_at_call 36; (first | (with_reducible refine (HA.out _).mono ?_) | (with_reducible refine (HB.out _).mono ?_)); rintro e w1 ⟨rfl, rfl⟩))
                                    go_ret
                                    exact ⟨ret_int (by rw [HG.out]; rfl), HL0.out⟩
                                  · skip
                                    have HG9 := HG.out; clear HG; rw [decide_eq_false z10] at HG9; have HG := Lib.hid HG9; clear HG9
                                    have z10b : (s10 == 0) = false := by simp [z10]
                                    go_wp2_with (first | (go_at_call 35; (first | (with_reducible refine (in_is H0.out _).mono ?_) | (with_reducible refine (in_is H1.out _).mono ?_) | (with_reducible refine (in_is H2.out _).mono ?_) | (with_reducible refine (in_is H5.out _).mono ?_) | (with_reducible refine (in_is H6.out _).mono ?_) | (with_reducible refine (in_is H7.out _).mono ?_) | (with_reducible refine (in_is H8.out _).mono ?_) | (with_reducible refine (in_is H10.out _).mono ?_)); rintro e w1 ⟨rfl, rfl⟩) | (go_at_call 36; (first | (with_reducible refine (HA.out _).mono ?_) | (with_reducible refine (HB.out _).mono ?_)); rintro e w1 ⟨rfl, rfl⟩))
                                    go_ret
                                    exact ⟨ret_int (by rw [HG.out]; rfl), HL0.out⟩
                            · go_wp2_with (first | (go_at_call 35; (first | (with_reducible refine (in_is H0.out _).mono ?_) | (with_reducible refine (in_is H1.out _).mono ?_) | (with_reducible refine (in_is H2.out _).mono ?_) | (with_reducible refine (in_is H5.out _).mono ?_) | (with_reducible refine (in_is H6.out _).mono ?_) | (with_reducible refine (in_is H7.out _).mono ?_) | (with_reducible refine (in_is H8.out _).mono ?_) | (with_reducible refine (in_is H10.out _).mono ?_)); rintro e w1 ⟨rfl, rfl⟩) | (go_at_call 36; (first | (with_reducible refine (HA.out _).mono ?_) | (with_reducible refine (HB.out _).mono ?_)); rintro e w1 ⟨rfl, rfl⟩))
                              go_ret
                              exact ⟨ret_int (by rw [HG.out]; rfl), HL0.out⟩
                          · skip
                            have HG9 := HG.out; clear HG; rw [decide_eq_false z7] at HG9; have HG := Lib.hid HG9; clear HG9
                            have z7b : (s7 == 0) = false := by simp [z7]
                            go_wp2_with (first | (go_at_call 35; (first | (with_reducible refine (in_is H0.out _).mono ?_) | (with_reducible refine (in_is H1.out _).mono ?_) | (with_reducible refine (in_is H2.out _).mono ?_) | (with_reducible refine (in_is H5.out _).mono ?_) | (with_reducible refine (in_is H6.out _).mono ?_) | (with_reducible refine (in_is H7.out _).mono ?_) | (with_reducible refine (in_is H8.out _).mono ?_) | (with_reducible refine (in_is H10.out _).mono ?_)); rintro e w1 ⟨rfl, rfl⟩) | (go_at_call 36; (first | (with_reducible refine (HA.out _).mono ?_) | (with_reducible refine (HB.out _).mono ?_)); rintro e w1 ⟨rfl, rfl⟩))
                            go_ret
                            exact ⟨ret_int (by rw [HG.out]; rfl), HL0.out⟩
                        · skip
                          have HG9 := HG.out; clear HG; rw [decide_eq_false z8] at HG9; have HG := Lib.hid HG9; clear HG9
                          have z8b : (s8 == 0) = false := by simp [z8]
                          by_cases z7 : s7 = 0
                          · skip
                            subst z7
                            have HG9 := HG.out; clear HG; (try rw [decide_eq_true (rfl : (0 : Int) = 0)] at HG9); have HG := Lib.hid HG9; clear HG9
                            go_wp2_with (first | (go_at_call 35; (first | (with_reducible refine (in_is H0.out _).mono ?_) | (with_reducible refine (in_is H1.out _).mono ?_) | (with_reducible refine (in_is H2.out _).mono ?_) | (with_reducible refine (in_is H5.out _).mono ?_) | (with_reducible refine (in_is H6.out _).mono ?_) | (with_reducible refine (in_is H7.out _).mono ?_) | (with_reducible refine (in_is H8.out _).mono ?_) | (with_reducible refine (in_is H10.out _).mono ?_)); rintro e w1 ⟨rfl, rfl⟩) | (go_at_call 36; (first | (with_reducible refine (HA.out _).mono ?_) | (with_reducible refine (HB.out _).mono ?_)); rintro e w1 ⟨rfl, rfl⟩))
                            go_ret
                            exact ⟨ret_int (by rw [HG.out]; rfl), HL0.out⟩
                          · skip
                            have HG9 := HG.out; clear HG; rw [decide_eq_false z7] at HG9; have HG := Lib.hid HG9; clear HG9
                            have z7b : (s7 == 0) = false := by simp [z7]
                            cases b9
                            · skip
                              cases v10
                              · go_wp2_with (first | (go_at_call 35; (first | (with_reducible refine (in_is H0.out _).mono ?_) | (with_reducible refine (in_is H1.out _).mono ?_) | (with_reducible refine (in_is H2.out _).mono ?_) | (with_reducible refine (in_is H5.out _).mono ?_) | (with_reducible refine (in_is H6.out _).mono ?_) | (with_reducible refine (in_is H7.out _).mono ?_) | (with_reducible refine (in_is H8.out _).mono ?_) | (with_reducible refine (in_is H10.out _).mono ?_)); rintro e w1 ⟨rfl, rfl⟩) | (go_at_call 36; (first | (with_reducible refine (HA.out _).mono ?_) | (with_reducible refine (HB.out _).mono ?_)); rintro e w1 ⟨rfl, rfl⟩))
                                go_ret
                                exact ⟨ret_int (by rw [HG.out]; rfl), HL0.out⟩
                              · cases b11
                                · go_wp2_with (first | (go_at_call 35; (first | (with_reducible refine (in_is H0.out _).mono ?_) | (with_reducible refine (in_is H1.out _).mono ?_) | (with_reducible refine (in_is H2.out _).mono ?_) | (with_reducible refine (in_is H5.out _).mono ?_) | (with_reducible refine (in_is H6.out _).mono ?_) | (with_reducible refine (in_is H7.out _).mono ?_) | (with_reducible refine (in_is H8.out _).mono ?_) | (with_reducible refine (in_is H10.out _).mono ?_)); rintro e w1 ⟨rfl, rfl⟩) | (go_at_call 36; (first | (with_reducible refine (HA.out _).mono ?_) | (with_reducible refine (HB.out _).mono ?_)); rintro e w1 ⟨rfl, rfl⟩))
                                  go_ret
                                  exact ⟨ret_int (by rw [HG.out]; rfl), HL0.out⟩
                                · by_cases z10 : s10 = 0
                                  · skip
                                    subst z10
                                    have HG9 := HG.out; clear HG; (try rw [decide_eq_true (rfl : (0 : Int) = 0)] at HG9); have HG := Lib.hid HG9; clear HG9
                                    go_wp2_with (first | (go_at_call 35; (first | (with_reducible refine (in_is H0.out _).mono ?_) | (with_reducible refine (in_is H1.out _).mono ?_) | (with_reducible refine (in_is H2.out _).mono ?_) | (with_reducible refine (in_is H5.out _).mono ?_) | (with_reducible refine (in_is H6.out _).mono ?_) | (with_reducible refine (in_is H7.out _).mono ?_) | (with_reducible refine (in_is H8.out _).mono ?_) | (with_reducible refine (in_is H10.out _).mono ?_)); rintro e w1 ⟨rfl, rfl⟩) | (go_at_call 36; (first | (with_reducible refine (HA.out _).mono ?_) | (with_reducible refine (HB.out _).mono ?_)); rintro e w1 ⟨rfl, rfl⟩))
                                    go_ret
                                    exact ⟨ret_int (by rw [HG.out]; rfl), HL0.out⟩
                                  · skip
                                    have HG9 := HG.out; clear HG; rw [decide_eq_false z10] at HG9; have HG := Lib.hid HG9; clear HG9
                                    have z10b : (s10 == 0) = false := by simp [z10]
                                    go_wp2_with (first | (go_at_call 35; (first | (with_reducible refine (in_is H0.out _).mono ?_) | (with_reducible refine (in_is H1.out _).mono ?_) | (with_reducible refine (in_is H2.out _).mono ?_) | (with_reducible refine (in_is H5.out _).mono ?_) | (with_reducible refine (in_is H6.out _).mono ?_) | (with_reducible refine (in_is H7.out _).mono ?_) | (with_reducible refine (in_is H8.out _).mono ?_) | (with_reducible refine (in_is H10.out _).mono ?_)); rintro e w1 ⟨rfl, rfl⟩) | (go_at_call 36; (first | (with_reducible refine (HA.out _).mono ?_) | (with_reducible refine (HB.out _).mono ?_)); rintro e w1 ⟨rfl, rfl⟩))
                                    go_ret
                                    exact ⟨ret_int (by rw [HG.out]; rfl), HL0.out⟩
                            · skip
                              cases v10
                              · go_wp2_with (first | (go_at_call 35; (first | (with_reducible refine (in_is H0.out _).mono ?_) | (with_reducible refine (in_is H1.out _).mono ?_) | (with_reducible refine (in_is H2.out _).mono ?_) | (with_reducible refine (in_is H5.out _).mono ?_) | (with_reducible refine (in_is H6.out _).mono ?_) | (with_reducible refine (in_is H7.out _).mono ?_) | (with_reducible refine (in_is H8.out _).mono ?_) | (with_reducible refine (in_is H10.out _).mono ?_)); rintro e w1 ⟨rfl, rfl⟩) | (go_at_call 36; (first | (with_reducible refine (HA.out _).mono ?_) | (with_reducible refine (HB.out _).mono ?_)); rintro e w1 ⟨rfl, rfl⟩))
                                go_ret
                                exact ⟨ret_int (by rw [HG.out]; rfl), HL0.out⟩
                              · cases b11
                                · go_wp2_with (first | (go_at_call 35; (first | (with_reducible refine (in_is H0.out _).mono ?_) | (with_reducible refine (in_is H1.out _).mono ?_) | (with_reducible refine (in_is H2.out _).mono ?_) | (with_reducible refine (in_is H5.out _).mono ?_) | (with_reducible refine (in_is H6.out _).mono ?_) | (with_reducible refine (in_is H7.out _).mono ?_) | (with_reducible refine (in_is H8.out _).mono ?_) | (with_reducible refine (in_is H10.out _).mono ?_)); rintro e w1 ⟨rfl, rfl⟩) | (go_at_call 36; (first | (with_reducible refine (HA.out _).mono ?_) | (with_reducible refine (HB.out _).mono ?_)); rintro e w1 ⟨rfl, rfl⟩))
                                  go_ret
                                  exact ⟨ret_int (by rw [HG.out]; rfl), HL0.out⟩
                                · by_cases z10 : s10 = 0
                                  · skip
                                    subst z10
                                    have HG9 := HG.out; clear HG; (try rw [decide_eq_true (rfl : (0 : Int) = 0)] at HG9); have HG := Lib.hid HG9; clear HG9
                                    go_wp2_with (first | (go_at_call 35; (first | (with_reducible refine (in_is H0.out _).mono ?_) | (with_reducible refine (in_is H1.out _).mono ?_) | (with_reducible refine (in_is H2.out _).mono ?_) | (with_reducible refine (in_is H5.out _).mono ?_) | (with_reducible refine (in_is H6.out _).mono ?_) | (with_reducible refine (in_is H7.out _).mono ?_) | (with_reducible refine (in_is H8.out _).mono ?_) | (with_reducible refine (in_is H10.out _).mono ?_)); rintro e w1 ⟨rfl, rfl⟩) | (go_at_call 36; (first | (with_reducible refine (HA.out _).mono ?_) | (with_reducible refine (HB.out _).mono ?_)); rintro e w1 ⟨rfl, rfl⟩))
                                    go_ret
                                    exact ⟨ret_int (by rw [HG.out]; rfl), HL0.out⟩
                                  · skip
                                    have HG9 := HG.out; clear HG; rw [decide_eq_false z10] at HG9; have HG := Lib.hid HG9; clear HG9
                                    have z10b : (s10 == 0) = false := by simp [z10]
                                    go_wp2_with (first | (go_at_call 35; (first | (with_reducible refine (in_is H0.out _).mono ?_) | (with_reducible refine (in_is H1.out _).mono ?_) | (with_reducible refine (in_is H2.out _).mono ?_) | (with_reducible refine (in_is H5.out _).mono ?_) | (with_reducible refine (in_is H6.out _).mono ?_) | (with_reducible refine (in_is H7.out _).mono ?_) | (with_reducible refine (in_is H8.out _).mono ?_) | (with_reducible refine (in_is H10.out _).mono ?_)); rintro e w1 ⟨rfl, rfl⟩) | (go_at_call 36; (first | (with_reducible refine (HA.out _).mono ?_) | (with_reducible refine (HB.out _).mono ?_)); rintro e w1 ⟨rfl, rfl⟩))
                                    go_ret
                                    exact ⟨ret_int (by rw [HG.out]; rfl), HL0.out⟩
end Go.Proofs.YtokdfdinnaghmaaDoor
