/- Walks: the laws on texts and on cycles. -/
import Derived.Test.YtigohhliblgdhaaDoorCalAwake
import Derived.Test.YtigohhliblgdhaaDoorLawKit
namespace Go.Proofs.YtigohhliblgdhaaDoor
open Go.RowKit

set_option maxHeartbeats 4000000 in
theorem walkCalendarPrints (n : Int) (s : ByteArray) (w : World) (wn : (Lit.int .i64 n).wf = true) (ws : s.size ≤ maxLen) (ht : Tab w) :
    Calls Tryd.prog 8 #[.int .i64 n, .string s] w fun e w' => e = .returned (.bool true) ∧ Below w.heap.size w w' := by
  have HT := Lib.hid ht; clear ht wn
  have H1 := Lib.hid (fun w => parse_any s w ws)
  have H2 := Lib.hid (fun w => refParse_any s w ws)
  have H3 := Lib.hid (fun w t => print_any n w t)
  have H4 := Lib.hid (fun w => refPrint_any n w)
  clear ws
  generalize parV s.data.toList = a at *
  generalize parE s.data.toList = b at *
  generalize S (prT n) = T at *
  go_enter Tryd.func8, Tryd.ntmps8
  go_wp2_with fail
  refine (H1.out _).mono ?_
  rintro e w1 ⟨rfl, hb1⟩
  go_wp2_with fail
  refine (H2.out _).mono ?_
  rintro e w2 ⟨rfl, hb⟩
  have hb2 := hb1.trans (hb.mono hb1.size)
  have HT2 := Lib.hid (Tab.below HT.out hb2)
  clear hb1 hb
  go_wp2_with fail
  refine (H3.out _ HT2.out).mono ?_
  rintro e w3 ⟨rfl, hb⟩
  have hb3 := hb2.trans (hb.mono hb2.size)
  clear hb2 hb
  go_wp2_with fail
  refine (H4.out _).mono ?_
  rintro e w4 ⟨rfl, hb⟩
  have hb4 := hb3.trans (hb.mono hb3.size)
  have HT4 := Lib.hid (Tab.below HT.out hb4)
  clear hb3 hb
  go_wp2_with (go_at_call 13; (with_reducible refine (awake_any _ HT4.out).mono ?_); rintro e w5 ⟨rfl, hb5⟩)
  go_ret
  exact ⟨rfl, hb4.trans (hb5.mono hb4.size)⟩

/-- Whether a period is valid and not longer than 2000 days. -/
def shortB (f t : Int) : Bool := okP f t && decide (t - f ≤ 172800000)
set_option maxHeartbeats 1000000 in
theorem short_any (f t : Int) (w : World) : Calls Tryd.prog 22 #[.agg #[.int .i64 f, .int .i64 t]] w fun e w' => e = .returned (.bool (shortB f t)) ∧ Below w.heap.size w w' := by
  by_cases h1 : 0 ≤ f
  · by_cases h2 : f < t
    · by_cases h3 : t ≤ 12622780800
      · obtain ⟨q, hq⟩ : ∃ q, decide (t - f ≤ 172800000) = q := ⟨_, rfl⟩
        have he : shortB f t = q := by unfold shortB; rw [okP_iff.2 ⟨h1, h2, h3⟩, hq]; rfl
        rw [he]; clear he
        have hsub : -9223372036854775808 ≤ t - f ∧ t - f ≤ 9223372036854775807 := by omega
        cases q
        all_goals
          go_enter Tryd.func22, Tryd.ntmps22
          go_wp2
          go_ret
          exact ⟨rfl, (Below.refl _ _).alloc (Nat.le_refl _) _⟩
      · have he : shortB f t = false := by unfold shortB okP; simp; omega
        have d1 : decide (0 ≤ f) = true := decide_eq_true h1
        have d2 : decide (f < t) = true := decide_eq_true h2
        have d3 : decide (t ≤ 12622780800) = false := decide_eq_false h3
        rw [he]; clear he h1 h2 h3
        go_enter Tryd.func22, Tryd.ntmps22
        go_wp2
        go_ret
        exact ⟨rfl, (Below.refl _ _).alloc (Nat.le_refl _) _⟩
    · have he : shortB f t = false := by unfold shortB okP; simp; omega
      have d1 : decide (0 ≤ f) = true := decide_eq_true h1
      have d2 : decide (f < t) = false := decide_eq_false h2
      rw [he]; clear he h1 h2
      go_enter Tryd.func22, Tryd.ntmps22
      go_wp2
      go_ret
      exact ⟨rfl, (Below.refl _ _).alloc (Nat.le_refl _) _⟩
  · have he : shortB f t = false := by unfold shortB okP; simp; omega
    have d1 : decide (0 ≤ f) = false := decide_eq_false h1
    rw [he]; clear he h1
    go_enter Tryd.func22, Tryd.ntmps22
    go_wp2
    go_ret
    exact ⟨rfl, (Below.refl _ _).alloc (Nat.le_refl _) _⟩
theorem short_is (f t : Int) (b : Bool) (h : shortB f t = b) (w : World) : Calls Tryd.prog 22 #[.agg #[.int .i64 f, .int .i64 t]] w fun e w' => e = .returned (.bool b) ∧ Below w.heap.size w w' := by
  subst h; exact short_any f t w

/-- The program's cycle and the reference's are one. -/
theorem cycle_both (a t : Int) : ∃ x y : Int, (∀ w, Calls Tryd.prog 20 #[.int .i64 a, .int .i64 t] w fun e w' => e = .returned (.agg #[.int .i64 x, .int .i64 y]) ∧ Below w.heap.size w w') ∧
    (∀ w, Calls Tryd.prog 21 #[.int .i64 a, .int .i64 t] w fun e w' => e = .returned (.agg #[.int .i64 x, .int .i64 y]) ∧ Below w.heap.size w w') := by
  cases ha : okA a
  · cases ht : okT t
    · exact ⟨0, 0, fun w => cycle_out a t w (.inl ha), fun w => refCycle_out a t w (.inl ht)⟩
    · exact ⟨0, 0, fun w => cycle_out a t w (.inl ha), fun w => refCycle_out a t w (.inr ⟨ht, ha⟩)⟩
  · cases ht : okT t
    · exact ⟨0, 0, fun w => cycle_out a t w (.inr ⟨ha, ht⟩), fun w => refCycle_out a t w (.inl ht)⟩
    · obtain ⟨a1, a2⟩ := okA_iff.1 ha
      obtain ⟨t1, t2⟩ := okT_iff.1 ht
      exact ⟨_, _, fun w => cycle_in a t w a1 a2 t1 t2, fun w => refCycle_in a t w a1 a2 t1 t2⟩
/-- What both answer to a period: the same pairs. -/
theorem cycles_both (a f t : Int) : ∃ (n : Nat) (x y : Nat → Int), n ≤ 100000 ∧ (∀ w, Calls Tryd.prog 24 #[.int .i64 a, .agg #[.int .i64 f, .int .i64 t]] w fun e w' => ∃ A c, e = .returned (.slice A n c) ∧ n ≤ c ∧ Prs w' A n x y ∧ Below w.heap.size w w') ∧
    (∀ w, Calls Tryd.prog 25 #[.int .i64 a, .agg #[.int .i64 f, .int .i64 t]] w fun e w' => ∃ A c, e = .returned (.slice A n c) ∧ n ≤ c ∧ Prs w' A n x y ∧ Below w.heap.size w w') := by
  by_cases h : okA a = true ∧ okP f t = true
  · obtain ⟨a1, a2⟩ := okA_iff.1 h.1
    obtain ⟨t1, t2, t3⟩ := okP_iff.1 h.2
    have hp := cnt_pos a f t a1 a2 t1 t2 t3
    have hb := cnt_bd a f t a1 a2 t1 t2 t3
    refine ⟨cnt a f t, fun k => st a (mon a f + k), fun k => st a (mon a f + k + 1), by omega, fun w => (cycles_in a f t w a1 a2 t1 t2 t3).mono ?_, fun w => (refCycles_in a f t w a1 a2 t1 t2 t3).mono ?_⟩
    · rintro e w' ⟨v, rfl, hown, hb⟩
      obtain ⟨g, c, rfl, hpr, hc⟩ := prs_cyc hown hp
      exact ⟨_, c, rfl, hc, hpr, hb⟩
    · rintro e w' ⟨v, rfl, hown, hb⟩
      obtain ⟨g, c, rfl, hpr, hc⟩ := prs_cyc hown hp
      exact ⟨_, c, rfl, hc, hpr, hb⟩
  · have hno : okA a = false ∨ (okA a = true ∧ okP f t = false) := by
      cases h1 : okA a
      · exact .inl rfl
      · refine .inr ⟨rfl, ?_⟩
        cases h2 : okP f t
        · rfl
        · exact absurd ⟨h1, h2⟩ h
    refine ⟨0, fun _ => 0, fun _ => 0, by omega, fun w => (cycles_out a f t w hno).mono ?_, fun w => (refCycles_out a f t w hno).mono ?_⟩
    · rintro e w' ⟨rfl, hb⟩
      exact ⟨none, 0, rfl, Nat.le_refl _, fun k hk => absurd hk (Nat.not_lt_zero k), hb⟩
    · rintro e w' ⟨rfl, hb⟩
      exact ⟨none, 0, rfl, Nat.le_refl _, fun k hk => absurd hk (Nat.not_lt_zero k), hb⟩

theorem Blk.two {w : World} {g : Nat} {t : TypeId} {x y : Value} (h : Blk w g t #[x, y]) : w.cell? ⟨g, 0, none⟩ = some x ∧ w.cell? ⟨g, 1, none⟩ = some y := ⟨h.cell 0, h.cell 1⟩
theorem Blk.drew {w : World} {g : Nat} {t : TypeId} {cs : Array Value} (h : Blk w g t cs) : Blk w.drew g t cs := h

/-- The rest of the law on cycles, from a world in which the period lies in its box. -/
theorem case_period (f t : Int) : (0 ≤ f ∧ f < t ∧ t ≤ 12622780800 ∧ shortB f t = false) ∨ (0 ≤ f ∧ f < t ∧ t ≤ 12622780800 ∧ shortB f t = true) ∨ ¬ 0 ≤ f ∨ (0 ≤ f ∧ ¬ f < t) ∨ (0 ≤ f ∧ f < t ∧ ¬ t ≤ 12622780800) := by
  by_cases h1 : 0 ≤ f
  · by_cases h2 : f < t
    · by_cases h3 : t ≤ 12622780800
      · cases h : shortB f t
        · exact .inl ⟨h1, h2, h3, rfl⟩
        · exact .inr (.inl ⟨h1, h2, h3, rfl⟩)
      · exact .inr (.inr (.inr (.inr ⟨h1, h2, h3⟩)))
    · exact .inr (.inr (.inr (.inl ⟨h1, h2⟩)))
  · exact .inr (.inr (.inl h1))
set_option maxHeartbeats 8000000 in
theorem walkCalendarCycles (a t p q : Int) (w : World) (wa : (Lit.int .i64 a).wf = true) (wt : (Lit.int .i64 t).wf = true) (wp : (Lit.int .i64 p).wf = true) (wq : (Lit.int .i64 q).wf = true) (ht : Tab w) :
    Calls Tryd.prog 6 #[.int .i64 a, .int .i64 t, .agg #[.int .i64 p, .int .i64 q]] w fun e w' => e = .returned (.bool true) ∧ Below w.heap.size w w' := by
  have HT := Lib.hid ht; clear ht wa wt wp wq
  obtain ⟨x, y, h1, h2⟩ := cycle_both a t
  obtain ⟨n, u, v, hn, h3, h4⟩ := cycles_both a p q
  have H1 := Lib.hid h1; have H2 := Lib.hid h2; have H3 := Lib.hid h3; have H4 := Lib.hid h4; have HN := Lib.hid hn
  clear h1 h2 h3 h4 hn
  have HB := Lib.hid (Blk.new w 37 #[.int .i64 p, .int .i64 q])
  have hgd := guardPeriod
  have heq := neqPeriod_same x y
  have HS := Lib.hid (fun w => short_any p q w)
  rcases case_period p q with ⟨k1, k2, k3, k4⟩ | hk
  · have d1 : decide (0 ≤ p) = true := decide_eq_true k1
    have d2 : decide (p < q) = true := decide_eq_true k2
    have d3 : decide (q ≤ 12622780800) = true := decide_eq_true k3
    rw [k4] at HS
    clear k1 k2 k3 k4
    go_enter Tryd.func6, Tryd.ntmps6
    go_wp2_with fail
    refine (H1.out _).mono ?_
    rintro e w1 ⟨rfl, hb1⟩
    go_wp2_with fail
    refine (H2.out _).mono ?_
    rintro e w2 ⟨rfl, hb⟩
    have hb2 := hb1.trans (hb.mono hb1.size)
    have hbw2 : Below w.heap.size w w2 := ((Below.refl _ w).alloc (Nat.le_refl _) _).trans (hb2.mono (by simp))
    obtain ⟨c0, c1⟩ := (HB.out.below hb2 (by simp)).two
    clear hb1 hb hb2
    go_wp2_with fail
    refine (HS.out _).mono ?_
    rintro e w3 ⟨rfl, hb⟩
    have hbw3 := hbw2.trans (hb.mono hbw2.size)
    have HT3 := Lib.hid (Tab.below HT.out hbw3)
    clear hb c0 c1
    go_wp2_with (go_at_call 13; (with_reducible refine (awake_any _ HT3.out).mono ?_); rintro e w5 ⟨rfl, hb5⟩)
    go_ret
    exact ⟨rfl, hbw3.trans (hb5.mono hbw3.size)⟩
  · rcases hk with ⟨k1, k2, k3, k4⟩ | k1 | ⟨k1, k2⟩ | ⟨k1, k2, k3⟩
    case' inr.inl => (have d1 : decide (0 ≤ p) = true := decide_eq_true k1; have d2 : decide (p < q) = true := decide_eq_true k2; have d3 : decide (q ≤ 12622780800) = true := decide_eq_true k3; rw [k4] at HS; clear k1 k2 k3 k4)
    case' inr.inr.inl => (have d1 : decide (0 ≤ p) = false := decide_eq_false k1; clear k1)
    case' inr.inr.inr.inl => (have d1 : decide (0 ≤ p) = true := decide_eq_true k1; have d2 : decide (p < q) = false := decide_eq_false k2; clear k1 k2)
    case' inr.inr.inr.inr => (have d1 : decide (0 ≤ p) = true := decide_eq_true k1; have d2 : decide (p < q) = true := decide_eq_true k2; have d3 : decide (q ≤ 12622780800) = false := decide_eq_false k3; clear k1 k2 k3)
    all_goals
      go_enter Tryd.func6, Tryd.ntmps6
      go_wp2_with fail
      refine (H1.out _).mono ?_
      rintro e w1 ⟨rfl, hb1⟩
      go_wp2_with fail
      refine (H2.out _).mono ?_
      rintro e w2 ⟨rfl, hb⟩
      have hb2 := hb1.trans (hb.mono hb1.size)
      have hbw2 : Below w.heap.size w w2 := ((Below.refl _ w).alloc (Nat.le_refl _) _).trans (hb2.mono (by simp))
      have hB2 := HB.out.below hb2 (by simp)
      obtain ⟨c0, c1⟩ := hB2.two
      have HB2 := Lib.hid hB2
      clear hb1 hb hb2 hB2
      first
        | (go_wp2_with fail; refine (HS.out _).mono ?_; rintro e w2' ⟨rfl, hb⟩; have hbw2' := hbw2.trans (hb.mono hbw2.size); have hB2' := HB2.out.below hb HB2.out.lt; clear hbw2 HB2 c0 c1 hb; have hbw2 := hbw2'; have HB2 := Lib.hid hB2'; obtain ⟨c0, c1⟩ := hB2'.two; clear hbw2' hB2'; go_wp2
           go_region_held3 (fun w' => w'.cell? ⟨w.heap.size, 0, none⟩ = some (.int .i64 p) ∧ w'.cell? ⟨w.heap.size, 1, none⟩ = some (.int .i64 q)) (go_keep)
            (first
              | (go_at_call 24; (with_reducible refine (H3.out _).mono ?_); rintro e w3 ⟨A, c, rfl, hc, hp, hb3⟩; have HB3 := Lib.hid (hbw2.drew.trans (hb3.mono hbw2.drew.size)); have HK3 := Lib.hid (HB2.out.drew.below hb3 HB2.out.lt); obtain ⟨c30, c31⟩ := HK3.out.two)
              | (go_at_call 25; (with_reducible refine (H4.out _).mono ?_); rintro e w4 ⟨B, c', rfl, hc', hp', hb4⟩; have HB4 := Lib.hid (HB3.out.trans (hb4.mono HB3.out.size)); have HK4 := Lib.hid (HK3.out.below hb4 HK3.out.lt); obtain ⟨c40, c41⟩ := HK4.out.two)
              | (go_at_call 23; (with_reducible refine (same_yes A B n c c' u v _ (hp.below hb4) hp' HN.out hc hc').mono ?_); rintro e w5 ⟨rfl, hb5⟩; have HB5 := Lib.hid (HB4.out.trans (hb5.mono HB4.out.size)); have HK5 := Lib.hid (HK4.out.below hb5 HK4.out.lt); obtain ⟨c50, c51⟩ := HK5.out.two; have HT5 := Lib.hid (Tab.below HT.out HB5.out))
              | (go_at_call 13; (with_reducible refine (awake_any _ HT5.out).mono ?_); rintro e w6 ⟨rfl, hb6⟩; obtain ⟨c60, c61⟩ := (HK5.out.below hb6 HK5.out.lt).two)))
        | (go_wp2
           go_region_held3 (fun w' => w'.cell? ⟨w.heap.size, 0, none⟩ = some (.int .i64 p) ∧ w'.cell? ⟨w.heap.size, 1, none⟩ = some (.int .i64 q)) (go_keep)
            (first
              | (go_at_call 24; (with_reducible refine (H3.out _).mono ?_); rintro e w3 ⟨A, c, rfl, hc, hp, hb3⟩; have HB3 := Lib.hid (hbw2.drew.trans (hb3.mono hbw2.drew.size)); have HK3 := Lib.hid (HB2.out.drew.below hb3 HB2.out.lt); obtain ⟨c30, c31⟩ := HK3.out.two)
              | (go_at_call 25; (with_reducible refine (H4.out _).mono ?_); rintro e w4 ⟨B, c', rfl, hc', hp', hb4⟩; have HB4 := Lib.hid (HB3.out.trans (hb4.mono HB3.out.size)); have HK4 := Lib.hid (HK3.out.below hb4 HK3.out.lt); obtain ⟨c40, c41⟩ := HK4.out.two)
              | (go_at_call 23; (with_reducible refine (same_yes A B n c c' u v _ (hp.below hb4) hp' HN.out hc hc').mono ?_); rintro e w5 ⟨rfl, hb5⟩; have HB5 := Lib.hid (HB4.out.trans (hb5.mono HB4.out.size)); have HK5 := Lib.hid (HK4.out.below hb5 HK4.out.lt); obtain ⟨c50, c51⟩ := HK5.out.two; have HT5 := Lib.hid (Tab.below HT.out HB5.out))
              | (go_at_call 13; (with_reducible refine (awake_any _ HT5.out).mono ?_); rintro e w6 ⟨rfl, hb6⟩; obtain ⟨c60, c61⟩ := (HK5.out.below hb6 HK5.out.lt).two)))
      go_wp2
      go_ret
      exact ⟨rfl, HB5.out.trans (hb6.mono HB5.out.size)⟩
end Go.Proofs.YtigohhliblgdhaaDoor
