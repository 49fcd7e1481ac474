/- Walks: an amount pays for these units and not for one more; two parts add up to the whole. -/
import Derived.Test.YtcjceecdcjjnfaaLdL1
namespace Go.Proofs.Ytcjceecdcjjnfaa
open Go.RowKit Ck Go.Lib

set_option maxRecDepth 100000 in
set_option maxHeartbeats 8000000 in
theorem walkLadderInverse (A : Option Addr) (m c : Nat) (l : List Sp) (f am : Int) (w : World) (hA : SpR w A l) (hm : l.length = m) (hc : m ≤ c) (hcm : c ≤ maxLen) :
    Calls Try.prog 6 #[.slice A m c, .int .i64 f, .int .i64 am] w fun e w' => e = .returned (.bool true) ∧ Below w.heap.size w w' := by
  by_cases h1 : 100 < m
  · have d1 : decide ((100 : Int) < (m : Int)) = true := decide_eq_true (by omega)
    clear hA hm h1
    go_enter Try.func6, Try.ntmps6
    go_wp2_with (go_at_call 9; (with_reducible refine (awake_any _).mono ?_); rintro e w1 ⟨rfl, hb1⟩)
    go_ret
    exact ⟨rfl, hb1⟩
  · have d1 : decide ((100 : Int) < (m : Int)) = false := decide_eq_false (by omega)
    obtain ⟨u, hu⟩ := isU_some l f am
    have H1 := Lib.hid (units_any A m c l f am u hu w hA hm hc hcm)
    have H2 := Lib.hid (fun (n v x : Int) (hv : btV l f n = v) (hx : btE l f n = x) (V : World) (h : Below w.heap.size w V) => between_is hv hx A m c V (hA.below h rfl) hm hc hcm)
    obtain ⟨x, hx⟩ : ∃ x, btE l f 0 = x := ⟨_, rfl⟩
    obtain ⟨v, hv⟩ : ∃ v, btV l f 0 = v := ⟨_, rfl⟩
    have hv0 : v = 0 := by
      rw [← hv]
      by_cases h : btE l f 0 = 0
      · rw [btV_zero h, Int.add_zero]; omega
      · exact btV_no h
    subst hv0
    have HZ := Lib.hid (H2.out 0 0 x hv hx)
    have du : decide ((u : Int) < 0) = false := decide_eq_false (by omega)
    by_cases hbad : x ≠ 0 ∨ am < 0
    · have hu0 : u = 0 := by
        rcases hu with ⟨_, h⟩ | ⟨h, _⟩
        · exact h
        · obtain ⟨g1, g2⟩ := pays_iff.1 (pays_less (a := 0) (by omega) (by omega) h)
          rw [hv] at g2
          rw [hx] at g1
          rcases hbad with h | h
          · exact absurd g1 h
          · omega
      subst hu0
      by_cases hx0 : x = 0
      · have da : decide (am < 0) = true := decide_eq_true (by rcases hbad with h | h; exact absurd hx0 h; exact h)
        subst hx0
        clear hA hm h1 hu hx hv hbad H2
        go_enter Try.func6, Try.ntmps6
        go_wp2_with (first
          | (go_at_call 16; (with_reducible refine H1.out.mono ?_); rintro e w1 ⟨rfl, hb⟩; have HB1 := Lib.hid hb; clear hb)
          | (go_at_call 12; (with_reducible refine (HZ.out _ HB1.out).mono ?_); rintro e w2 ⟨rfl, hb⟩; have HB2 := Lib.hid (below_then HB1.out (Nat.le_refl _) hb); clear hb)
          | (go_at_call 9; (with_reducible refine (awake_any _).mono ?_); rintro e w3 ⟨rfl, hb⟩; have HB3 := Lib.hid (below_then HB2.out (Nat.le_refl _) hb); clear hb))
        go_ret
        exact ⟨rfl, HB3.out⟩
      · have dx : (x != 0) = true := by rw [bne_iff_ne]; exact hx0
        clear hA hm h1 hu hx hv hbad H2 hx0
        go_enter Try.func6, Try.ntmps6
        go_wp2_with (first
          | (go_at_call 16; (with_reducible refine H1.out.mono ?_); rintro e w1 ⟨rfl, hb⟩; have HB1 := Lib.hid hb; clear hb)
          | (go_at_call 12; (with_reducible refine (HZ.out _ HB1.out).mono ?_); rintro e w2 ⟨rfl, hb⟩; have HB2 := Lib.hid (below_then HB1.out (Nat.le_refl _) hb); clear hb)
          | (go_at_call 9; (with_reducible refine (awake_any _).mono ?_); rintro e w3 ⟨rfl, hb⟩; have HB3 := Lib.hid (below_then HB2.out (Nat.le_refl _) hb); clear hb))
        go_ret
        exact ⟨rfl, HB3.out⟩
    · obtain ⟨hx0, ham⟩ : x = 0 ∧ ¬ am < 0 := by
        refine ⟨Decidable.not_not.1 (fun h => hbad (.inl h)), fun h => hbad (.inr h)⟩
      subst hx0
      have da : decide (am < 0) = false := decide_eq_false ham
      have hp0 : paysB l f am 0 = true := pays_iff.2 ⟨hx, by rw [hv]; omega⟩
      obtain ⟨g1, g2⟩ := hu.pays hp0
      obtain ⟨e1, e2⟩ := pays_iff.1 g1
      have hmax := pays_max g1
      obtain ⟨a, ha⟩ : ∃ a, btV l f u = a := ⟨_, rfl⟩
      obtain ⟨y, hy⟩ : ∃ y, btE l f ((u : Int) + 1) = y := ⟨_, rfl⟩
      obtain ⟨b, hb⟩ : ∃ b, btV l f ((u : Int) + 1) = b := ⟨_, rfl⟩
      rw [ha] at e2
      have dz : decide (a ≤ am) = true := decide_eq_true e2
      have HU := Lib.hid (H2.out (u : Int) a 0 ha e1)
      have HV := Lib.hid (H2.out ((u : Int) + 1) b y hb hy)
      have hend : y ≠ 0 ∨ (y = 0 ∧ am < b) := by
        by_cases h : y = 0
        · right; refine ⟨h, ?_⟩
          apply Decidable.byContradiction
          intro h2
          rw [pays_iff.2 ⟨hy.trans h, by rw [hb]; omega⟩] at g2
          cases g2
        · exact .inl h
      have hur : (u : Int) ≤ 1099511627776 := by omega
      clear hA hm h1 hu hx hv hbad H2 hp0 g1 g2 e1 hmax ha hy hb
      rcases hend with h | ⟨rfl, h⟩
      · have dy : (y != 0) = true := by rw [bne_iff_ne]; exact h
        clear h
        go_enter Try.func6, Try.ntmps6
        go_wp2_with (first
          | (go_at_call 16; (with_reducible refine H1.out.mono ?_); rintro e w1 ⟨rfl, hb⟩; have HB1 := Lib.hid hb; clear hb)
          | (go_at_call 12; (with_reducible refine (HZ.out _ HB1.out).mono ?_); rintro e w2 ⟨rfl, hb⟩; have HB2 := Lib.hid (below_then HB1.out (Nat.le_refl _) hb); clear hb)
          | (go_at_call 12; (with_reducible refine (HU.out _ HB2.out).mono ?_); rintro e w3 ⟨rfl, hb⟩; have HB3 := Lib.hid (below_then HB2.out (Nat.le_refl _) hb); clear hb)
          | (go_at_call 12; (with_reducible refine (HV.out _ HB3.out).mono ?_); rintro e w4 ⟨rfl, hb⟩; have HB4 := Lib.hid (below_then HB3.out (Nat.le_refl _) hb); clear hb)
          | (go_at_call 9; (with_reducible refine (awake_any _).mono ?_); rintro e w5 ⟨rfl, hb⟩; have HB5 := Lib.hid (below_then HB4.out (Nat.le_refl _) hb); clear hb))
        go_ret
        exact ⟨rfl, HB5.out⟩
      · have dy : decide (am < b) = true := decide_eq_true h
        clear h
        go_enter Try.func6, Try.ntmps6
        go_wp2_with (first
          | (go_at_call 16; (with_reducible refine H1.out.mono ?_); rintro e w1 ⟨rfl, hb⟩; have HB1 := Lib.hid hb; clear hb)
          | (go_at_call 12; (with_reducible refine (HZ.out _ HB1.out).mono ?_); rintro e w2 ⟨rfl, hb⟩; have HB2 := Lib.hid (below_then HB1.out (Nat.le_refl _) hb); clear hb)
          | (go_at_call 12; (with_reducible refine (HU.out _ HB2.out).mono ?_); rintro e w3 ⟨rfl, hb⟩; have HB3 := Lib.hid (below_then HB2.out (Nat.le_refl _) hb); clear hb)
          | (go_at_call 12; (with_reducible refine (HV.out _ HB3.out).mono ?_); rintro e w4 ⟨rfl, hb⟩; have HB4 := Lib.hid (below_then HB3.out (Nat.le_refl _) hb); clear hb)
          | (go_at_call 9; (with_reducible refine (awake_any _).mono ?_); rintro e w5 ⟨rfl, hb⟩; have HB5 := Lib.hid (below_then HB4.out (Nat.le_refl _) hb); clear hb))
        go_ret
        exact ⟨rfl, HB5.out⟩

theorem parts_some {l : List Sp} {f a b : Int} (ha : 0 ≤ a) (hb : 0 ≤ b) (h : btE l f (a + b) = 0) : btE l f a = 0 ∧ btE l (f + a) b = 0 ∧ 0 ≤ btV l f a ∧ 0 ≤ btV l (f + a) b ∧ btV l f a + btV l (f + a) b = btV l f (a + b) ∧ btV l f a ≤ 1125899906842624 ∧ btV l (f + a) b ≤ 1125899906842624 := by
  obtain ⟨hs, h1, h2, h3, h4⟩ := btE_zero.1 h
  have m1 : prcN l f.toNat ≤ prcN l (f + a).toNat := prcN_mono (by omega)
  have m2 : prcN l (f + a).toNat ≤ prcN l (f + (a + b)).toNat := prcN_mono (by omega)
  have e1 : btE l f a = 0 := btE_zero.2 ⟨hs, h1, ha, by omega, by omega⟩
  have e2 : btE l (f + a) b = 0 := btE_zero.2 ⟨hs, by omega, hb, by omega, by rw [Int.add_assoc]; exact h4⟩
  rw [btV_zero h, btV_zero e1, btV_zero e2, Int.add_assoc]
  refine ⟨e1, e2, ?_, ?_, ?_, ?_, ?_⟩ <;> omega

set_option maxRecDepth 100000 in
set_option maxHeartbeats 8000000 in
theorem walkLadderParts (A : Option Addr) (m c : Nat) (l : List Sp) (f a b : Int) (w : World) (hA : SpR w A l) (hm : l.length = m) (hc : m ≤ c) (hcm : c ≤ maxLen) :
    Calls Try.prog 7 #[.slice A m c, .int .i64 f, .agg #[.int .i64 a, .int .i64 b]] w fun e w' => e = .returned (.bool true) ∧ Below w.heap.size w w' := by
  obtain ⟨W, hW⟩ : ∃ W, w.alloc (.cells #[.int .i64 a, .int .i64 b] 32) = W := ⟨_, rfl⟩
  obtain ⟨g, hg⟩ : ∃ g, w.heap.size = g := ⟨_, rfl⟩
  have hB : Blk W g 32 #[.int .i64 a, .int .i64 b] := hW ▸ hg ▸ Blk.new w _ _
  have hBW : Below w.heap.size w W := hW ▸ below_one w _
  have HBW := Lib.hid hBW
  have HBK := Lib.hid hB
  have c0 := hB.cell 0; have c1 := hB.cell 1
  by_cases hout : 100 < m ∨ (¬ 100 < m ∧ a < 0) ∨ (¬ 100 < m ∧ ¬ a < 0 ∧ b < 0) ∨ (¬ 100 < m ∧ ¬ a < 0 ∧ ¬ b < 0 ∧ 1099511627776 < a) ∨ (¬ 100 < m ∧ ¬ a < 0 ∧ ¬ b < 0 ∧ ¬ 1099511627776 < a ∧ 1099511627776 < b) ∨ (¬ 100 < m ∧ ¬ a < 0 ∧ ¬ b < 0 ∧ ¬ 1099511627776 < a ∧ ¬ 1099511627776 < b ∧ f < 0) ∨ (¬ 100 < m ∧ ¬ a < 0 ∧ ¬ b < 0 ∧ ¬ 1099511627776 < a ∧ ¬ 1099511627776 < b ∧ ¬ f < 0 ∧ 1099511627776 < f)
  · rcases hout with h1 | ⟨h1, h2⟩ | ⟨h1, h2, h3⟩ | ⟨h1, h2, h3, h4⟩ | ⟨h1, h2, h3, h4, h5⟩ | ⟨h1, h2, h3, h4, h5, h6⟩ | ⟨h1, h2, h3, h4, h5, h6, h7⟩
    all_goals
      clear hA hm hB hBW
      first | (have d1 : decide ((100 : Int) < (m : Int)) = true := decide_eq_true (by omega)) | (have d1 : decide ((100 : Int) < (m : Int)) = false := decide_eq_false (by omega))
      go_enter Try.func7, Try.ntmps7
      go_wp2_with (go_at_call 9; (with_reducible refine (awake_any _).mono ?_); rintro e w1 ⟨rfl, hb1⟩)
      go_ret
      exact ⟨rfl, below_then HBW.out (Nat.le_refl _) hb1⟩
  · have h1 : ¬ 100 < m := by omega
    have h2 : ¬ a < 0 := by omega
    have h3 : ¬ b < 0 := by omega
    have h4 : ¬ 1099511627776 < a := by omega
    have h5 : ¬ 1099511627776 < b := by omega
    have h6 : ¬ f < 0 := by omega
    have h7 : ¬ 1099511627776 < f := by omega
    have d1 : decide ((100 : Int) < (m : Int)) = false := decide_eq_false (by omega)
    clear hout
    have H2 := Lib.hid (fun (f n v x : Int) (hv : btV l f n = v) (hx : btE l f n = x) (V : World) (h : Below W.heap.size W V) => between_is hv hx A m c V (hA.below (below_then hBW (Nat.le_refl _) h) rfl) hm hc hcm)
    by_cases he : btE l f (a + b) = 0
    · obtain ⟨e1, e2, z1, z2, hsum, y1, y2⟩ := parts_some (l := l) (f := f) (a := a) (b := b) (by omega) (by omega) he
      obtain ⟨v, hv⟩ : ∃ v, btV l f (a + b) = v := ⟨_, rfl⟩
      obtain ⟨x, hx⟩ : ∃ x, btV l f a = x := ⟨_, rfl⟩
      obtain ⟨y, hy⟩ : ∃ y, btV l (f + a) b = y := ⟨_, rfl⟩
      rw [hx] at z1 y1; rw [hy] at z2 y2
      have hs : x + y = v := by rw [← hx, ← hy, ← hv]; exact hsum
      have HV := Lib.hid (H2.out f (a + b) v 0 hv he)
      have HX := Lib.hid (H2.out f a x 0 hx e1)
      have HY := Lib.hid (H2.out (f + a) b y 0 hy e2)
      subst hs
      clear hA hm hB hBW H2 he e1 e2 hsum hv hx hy
      go_enter Try.func7, Try.ntmps7
      go_wp2_with (first
        | (go_at_call 12; (with_reducible refine (HV.out _ (Below.refl _ _)).mono ?_); rintro e w2 ⟨rfl, hb⟩; have HB2 := Lib.hid hb; clear c0 c1; have c0 := (HBK.out.below HB2.out HBK.out.lt).cell 0; have c1 := (HBK.out.below HB2.out HBK.out.lt).cell 1; clear hb)
        | (go_at_call 12; (with_reducible refine (HX.out _ HB2.out).mono ?_); rintro e w3 ⟨rfl, hb⟩; have HB3 := Lib.hid (below_then HB2.out (Nat.le_refl _) hb); clear c0 c1; have c0 := (HBK.out.below HB3.out HBK.out.lt).cell 0; have c1 := (HBK.out.below HB3.out HBK.out.lt).cell 1; clear hb)
        | (go_at_call 12; (with_reducible refine (HY.out _ HB3.out).mono ?_); rintro e w4 ⟨rfl, hb⟩; have HB4 := Lib.hid (below_then HB3.out (Nat.le_refl _) hb); clear hb c0 c1)
        | (go_at_call 9; (with_reducible refine (awake_any _).mono ?_); rintro e w5 ⟨rfl, hb⟩; have HB5 := Lib.hid (below_then HB4.out (Nat.le_refl _) hb); clear hb))
      go_ret
      exact ⟨rfl, below_then HBW.out (Nat.le_refl _) HB5.out⟩
    · obtain ⟨x, hx⟩ : ∃ x, btE l f (a + b) = x := ⟨_, rfl⟩
      have HV := Lib.hid (H2.out f (a + b) 0 x (btV_no he) hx)
      have dx : (x != 0) = true := by rw [bne_iff_ne, ← hx]; exact he
      clear hA hm hB hBW H2 he hx
      go_enter Try.func7, Try.ntmps7
      go_wp2_with (first
        | (go_at_call 12; (with_reducible refine (HV.out _ (Below.refl _ _)).mono ?_); rintro e w2 ⟨rfl, hb⟩; have HB2 := Lib.hid hb; clear hb c0 c1)
        | (go_at_call 9; (with_reducible refine (awake_any _).mono ?_); rintro e w5 ⟨rfl, hb⟩; have HB5 := Lib.hid (below_then HB2.out (Nat.le_refl _) hb); clear hb))
      go_ret
      exact ⟨rfl, below_then HBW.out (Nat.le_refl _) HB5.out⟩
end Go.Proofs.Ytcjceecdcjjnfaa
