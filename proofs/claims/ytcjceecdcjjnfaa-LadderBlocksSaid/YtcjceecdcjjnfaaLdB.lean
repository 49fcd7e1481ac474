/- Walks: the price of units, also behind others, in the program and in the reference. -/
import Derived.Test.YtcjceecdcjjnfaaLdR
namespace Go.Proofs.Ytcjceecdcjjnfaa.Ck
open Go Go.Lib Go.RowKit Go.Proofs.Ytcjceecdcjjnfaa

theorem below_then {B : Nat} {a b c : World} (h : Below B a b) (hB : B ≤ a.heap.size) (k : Below b.heap.size b c) : Below B a c := h.trans (k.mono (Nat.le_trans hB h.size))
set_option maxRecDepth 100000 in
set_option maxHeartbeats 8000000 in
theorem Price_any (A : Option Addr) (m c : Nat) (l : List Sp) (n : Int) (w : World) (hA : SpR w A l) (hm : l.length = m) (hc : m ≤ c) (hcm : c ≤ maxLen) :
    Calls Try.prog 10 #[.slice A m c, .int .i64 n] w fun e w' => e = .returned (.tuple #[.int .i64 (pcV l n), .int .i64 (pcE l n)]) ∧ Below w.heap.size w w' := by
  by_cases hs : stepsE l = 0
  · have HE : Hid (pcV l n = prV l n ∧ pcE l n = prE l n) := Lib.hid (by unfold pcV pcE; rw [if_pos hs, if_pos hs]; exact ⟨rfl, rfl⟩)
    have HS0 := Lib.hid (hs ▸ steps_any A m c l w hA hm hc hcm)
    have HP := Lib.hid (fun (W : World) (h : SpR W A l) => price_any A m c l n W h hm hc hcm hs)
    have HA := Lib.hid hA
    clear hA hm hs
    go_enter Try.func10, Try.ntmps10
    go_wp2_with (first
      | (go_at_call 18; (with_reducible refine HS0.out.mono ?_); rintro e w1 ⟨rfl, hb1⟩; have HB1 := Lib.hid hb1; clear hb1)
      | (go_at_call 19; (with_reducible refine (HP.out _ (HA.out.below HB1.out rfl)).mono ?_); rintro e w2 ⟨rfl, hb2⟩; have HB2 := Lib.hid (below_then HB1.out (Nat.le_refl _) hb2); clear hb2))
    go_ret2
    exact ⟨ret_2 HE.out.1.symm HE.out.2.symm, HB2.out⟩
  · have HE : Hid (pcV l n = 0 ∧ pcE l n = 8) := Lib.hid (by unfold pcV pcE; rw [if_neg hs, if_neg hs]; exact ⟨rfl, rfl⟩)
    obtain ⟨v, hv⟩ : ∃ v, stepsE l = v := ⟨_, rfl⟩
    have HS0 := Lib.hid (hv ▸ steps_any A m c l w hA hm hc hcm)
    have d0 : (v != 0) = true := by rw [bne_iff_ne, ← hv]; exact hs
    clear hA hm hs hv
    go_enter Try.func10, Try.ntmps10
    go_wp2_with (go_at_call 18; (with_reducible refine HS0.out.mono ?_); rintro e w1 ⟨rfl, hb1⟩; have HB1 := Lib.hid hb1; clear hb1)
    go_ret2
    exact ⟨ret_2 HE.out.1.symm HE.out.2.symm, HB1.out⟩

theorem price_is {l : List Sp} {n v e : Int} (h1 : prV l n = v) (h2 : prE l n = e) (A : Option Addr) (m c : Nat) (w : World) (hA : SpR w A l) (hm : l.length = m) (hc : m ≤ c) (hcm : c ≤ maxLen) (hl : stepsE l = 0) :
    Calls Try.prog 19 #[.slice A m c, .int .i64 n] w fun x w' => x = .returned (.tuple #[.int .i64 v, .int .i64 e]) ∧ Below w.heap.size w w' := by
  subst h1 h2; exact price_any A m c l n w hA hm hc hcm hl
theorem refPrice_is {l : List Sp} {n v e : Int} (h1 : pcV l n = v) (h2 : pcE l n = e) (A : Option Addr) (m c : Nat) (w : World) (hA : SpR w A l) (hm : l.length = m) (hc : m ≤ c) (hcm : c ≤ maxLen) :
    Calls Try.prog 11 #[.slice A m c, .int .i64 n] w fun x w' => x = .returned (.tuple #[.int .i64 v, .int .i64 e]) ∧ Below w.heap.size w w' := by
  subst h1 h2; exact refPrice_any A m c l n w hA hm hc hcm
theorem Price_is {l : List Sp} {n v e : Int} (h1 : pcV l n = v) (h2 : pcE l n = e) (A : Option Addr) (m c : Nat) (w : World) (hA : SpR w A l) (hm : l.length = m) (hc : m ≤ c) (hcm : c ≤ maxLen) :
    Calls Try.prog 10 #[.slice A m c, .int .i64 n] w fun x w' => x = .returned (.tuple #[.int .i64 v, .int .i64 e]) ∧ Below w.heap.size w w' := by
  subst h1 h2; exact Price_any A m c l n w hA hm hc hcm
theorem bt_bad {l : List Sp} {f n : Int} (h : stepsE l ≠ 0) : btV l f n = 0 ∧ btE l f n = 8 := by
  have : btE l f n = 8 := by unfold btE; rw [if_neg h]
  exact ⟨btV_no (by rw [this]; decide), this⟩
theorem bt_six {l : List Sp} {f n : Int} (hs : stepsE l = 0) (h : btE l f n ≠ 0) : btV l f n = 0 ∧ btE l f n = 6 := by
  refine ⟨btV_no h, ?_⟩
  unfold btE at h ⊢
  rw [if_pos hs] at h ⊢
  split
  · rfl
  · rename_i g; rw [if_neg g] at h
    rcases prE_cases l (f + n) with e | e
    · exact absurd e h
    · exact e

set_option maxRecDepth 100000 in
set_option maxHeartbeats 8000000 in
theorem between_any (A : Option Addr) (m c : Nat) (l : List Sp) (f n : Int) (w : World) (hA : SpR w A l) (hm : l.length = m) (hc : m ≤ c) (hcm : c ≤ maxLen) :
    Calls Try.prog 12 #[.slice A m c, .int .i64 f, .int .i64 n] w fun e w' => e = .returned (.tuple #[.int .i64 (btV l f n), .int .i64 (btE l f n)]) ∧ Below w.heap.size w w' := by
  by_cases hs : stepsE l = 0
  · have HS0 := Lib.hid (hs ▸ steps_any A m c l w hA hm hc hcm)
    cases hf : inB f 0 1099511627776
    · have HR := Lib.hid (bt_six (l := l) (f := f) (n := n) hs (by unfold btE; rw [if_pos hs, if_pos (.inl hf)]; decide))
      have HF := Lib.hid (within_is hf)
      clear hA hm hs hf
      go_enter Try.func12, Try.ntmps12
      go_wp2_with (first
        | (go_at_call 18; (with_reducible refine HS0.out.mono ?_); rintro e w1 ⟨rfl, hb1⟩; have HB1 := Lib.hid hb1; clear hb1)
        | (go_at_call 23; (with_reducible refine (HF.out _).mono ?_); rintro e w2 ⟨rfl, rfl⟩))
      go_ret2
      exact ⟨ret_2 HR.out.1.symm HR.out.2.symm, HB1.out⟩
    · cases hn : inB n 0 1099511627776
      · have HR := Lib.hid (bt_six (l := l) (f := f) (n := n) hs (by unfold btE; rw [if_pos hs, if_pos (.inr hn)]; decide))
        have HF := Lib.hid (within_is hf); have HN := Lib.hid (within_is hn)
        clear hA hm hs hf hn
        go_enter Try.func12, Try.ntmps12
        go_wp2_with (first
          | (go_at_call 18; (with_reducible refine HS0.out.mono ?_); rintro e w1 ⟨rfl, hb1⟩; have HB1 := Lib.hid hb1; clear hb1)
          | (go_at_call 23; (first | (with_reducible refine (HF.out _).mono ?_) | (with_reducible refine (HN.out _).mono ?_)); rintro e w2 ⟨rfl, rfl⟩))
        go_ret2
        exact ⟨ret_2 HR.out.1.symm HR.out.2.symm, HB1.out⟩
      · have HF := Lib.hid (within_is hf); have HN := Lib.hid (within_is hn)
        have f1 := inR_iff.1 hf; have n1 := inR_iff.1 hn
        have hbt : btE l f n = prE l (f + n) := by unfold btE; rw [if_pos hs, hf, hn, if_neg (by decide)]
        have HA := Lib.hid hA
        have HP := Lib.hid (fun (n : Int) (v e : Int) (h1 : prV l n = v) (h2 : prE l n = e) (W : World) (h : SpR W A l) => price_is h1 h2 A m c W h hm hc hcm hs)
        by_cases h0 : prE l (f + n) = 0
        · have g0 : prE l f = 0 := prE_less f1.1 (by omega) h0
          obtain ⟨a, ha⟩ : ∃ a, prV l (f + n) = a := ⟨_, rfl⟩
          obtain ⟨b, hb⟩ : ∃ b, prV l f = b := ⟨_, rfl⟩
          have ra : 0 ≤ a ∧ a ≤ 1125899906842624 := ha ▸ prV_range
          have rb : 0 ≤ b ∧ b ≤ 1125899906842624 := hb ▸ prV_range
          have HR : Hid (btV l f n = a - b ∧ btE l f n = 0) := Lib.hid ⟨by unfold btV; rw [hbt, if_pos h0, ha, hb], by rw [hbt, h0]⟩
          have HP1 := Lib.hid (HP.out (f + n) a 0 ha h0)
          have HP2 := Lib.hid (HP.out f b 0 hb g0)
          clear hA hm hs hf hn hbt HP ha hb h0 g0
          go_enter Try.func12, Try.ntmps12
          go_wp2_with (first
            | (go_at_call 18; (with_reducible refine HS0.out.mono ?_); rintro e w1 ⟨rfl, hb1⟩; have HB1 := Lib.hid hb1; clear hb1)
            | (go_at_call 23; (first | (with_reducible refine (HF.out _).mono ?_) | (with_reducible refine (HN.out _).mono ?_)); rintro e w2 ⟨rfl, rfl⟩)
            | (go_at_call 19; (with_reducible refine (HP1.out _ (HA.out.below HB1.out rfl)).mono ?_); rintro e w3 ⟨rfl, hb3⟩; have HB3 := Lib.hid (below_then HB1.out (Nat.le_refl _) hb3); clear hb3)
            | (go_at_call 19; (with_reducible refine (HP2.out _ (HA.out.below HB3.out rfl)).mono ?_); rintro e w4 ⟨rfl, hb4⟩; have HB4 := Lib.hid (below_then HB3.out (Nat.le_refl _) hb4); clear hb4))
          go_ret2
          exact ⟨ret_2 HR.out.1.symm HR.out.2.symm, HB4.out⟩
        · have h6 : prE l (f + n) = 6 := by rcases prE_cases l (f + n) with e | e; exact absurd e h0; exact e
          have HR := Lib.hid (bt_six (l := l) (f := f) (n := n) hs (by rw [hbt]; exact h0))
          have HP1 := Lib.hid (HP.out (f + n) 0 6 (prV_six h0) h6)
          clear hA hm hs hf hn hbt HP h0 h6
          go_enter Try.func12, Try.ntmps12
          go_wp2_with (first
            | (go_at_call 18; (with_reducible refine HS0.out.mono ?_); rintro e w1 ⟨rfl, hb1⟩; have HB1 := Lib.hid hb1; clear hb1)
            | (go_at_call 23; (first | (with_reducible refine (HF.out _).mono ?_) | (with_reducible refine (HN.out _).mono ?_)); rintro e w2 ⟨rfl, rfl⟩)
            | (go_at_call 19; (with_reducible refine (HP1.out _ (HA.out.below HB1.out rfl)).mono ?_); rintro e w3 ⟨rfl, hb3⟩; have HB3 := Lib.hid (below_then HB1.out (Nat.le_refl _) hb3); clear hb3))
          go_ret2
          exact ⟨ret_2 HR.out.1.symm HR.out.2.symm, HB3.out⟩
  · have HR := Lib.hid (bt_bad (l := l) (f := f) (n := n) hs)
    obtain ⟨v, hv⟩ : ∃ v, stepsE l = v := ⟨_, rfl⟩
    have HS0 := Lib.hid (hv ▸ steps_any A m c l w hA hm hc hcm)
    have d0 : (v != 0) = true := by rw [bne_iff_ne, ← hv]; exact hs
    clear hA hm hs hv
    go_enter Try.func12, Try.ntmps12
    go_wp2_with (go_at_call 18; (with_reducible refine HS0.out.mono ?_); rintro e w1 ⟨rfl, hb1⟩; have HB1 := Lib.hid hb1; clear hb1)
    go_ret2
    exact ⟨ret_2 HR.out.1.symm HR.out.2.symm, HB1.out⟩
theorem between_is {l : List Sp} {f n v x : Int} (hv : btV l f n = v) (hx : btE l f n = x) (A : Option Addr) (m c : Nat) (w : World) (hA : SpR w A l) (hm : l.length = m) (hc : m ≤ c) (hcm : c ≤ maxLen) :
    Calls Try.prog 12 #[.slice A m c, .int .i64 f, .int .i64 n] w fun e w' => e = .returned (.tuple #[.int .i64 v, .int .i64 x]) ∧ Below w.heap.size w w' := by
  subst hv hx; exact between_any A m c l f n w hA hm hc hcm

set_option maxRecDepth 100000 in
set_option maxHeartbeats 8000000 in
theorem refBetween_any (A : Option Addr) (m c : Nat) (l : List Sp) (f n : Int) (w : World) (hA : SpR w A l) (hm : l.length = m) (hc : m ≤ c) (hcm : c ≤ maxLen) (hfr : -9223372036854775808 ≤ f ∧ f ≤ 9223372036854775807) (hnr : -9223372036854775808 ≤ n ∧ n ≤ 9223372036854775807) :
    Calls Try.prog 13 #[.slice A m c, .int .i64 f, .int .i64 n] w fun e w' => e = .returned (.tuple #[.int .i64 (btV l f n), .int .i64 (btE l f n)]) ∧ Below w.heap.size w w' := by
  by_cases hs : stepsE l = 0
  · have HS0 := Lib.hid (hs ▸ refSteps_any A m c l w hA hm hc hcm)
    have ways : (f < 0 ∧ f < 0) ∨ (¬ f < 0 ∧ 1099511627776 < f) ∨ ((¬ f < 0 ∧ ¬ 1099511627776 < f) ∧ n < 0) ∨ ((¬ f < 0 ∧ ¬ 1099511627776 < f) ∧ ¬ n < 0 ∧ 1099511627776 - f < n) ∨ (¬ f < 0 ∧ ¬ 1099511627776 < f ∧ ¬ n < 0 ∧ ¬ 1099511627776 - f < n) := by omega
    rcases ways with ⟨h, -⟩ | ⟨h, h2⟩ | ⟨⟨h, h2⟩, h3⟩ | ⟨⟨h, h2⟩, h3, h4⟩ | ⟨h, h2, h3, h4⟩
    · have HR := Lib.hid (bt_six (l := l) (f := f) (n := n) hs (fun e => by have := btE_zero.1 e; omega))
      have d1 : decide (f < 0) = true := decide_eq_true h
      clear hA hm hs
      go_enter Try.func13, Try.ntmps13
      go_wp2_with (go_at_call 20; (with_reducible refine HS0.out.mono ?_); rintro e w1 ⟨rfl, hb1⟩; have HB1 := Lib.hid hb1; clear hb1)
      go_ret2
      exact ⟨ret_2 HR.out.1.symm HR.out.2.symm, HB1.out⟩
    · have HR := Lib.hid (bt_six (l := l) (f := f) (n := n) hs (fun e => by have := btE_zero.1 e; omega))
      have d1 : decide (f < 0) = false := decide_eq_false h
      have d2 : decide (1099511627776 < f) = true := decide_eq_true h2
      clear hA hm hs
      go_enter Try.func13, Try.ntmps13
      go_wp2_with (go_at_call 20; (with_reducible refine HS0.out.mono ?_); rintro e w1 ⟨rfl, hb1⟩; have HB1 := Lib.hid hb1; clear hb1)
      go_ret2
      exact ⟨ret_2 HR.out.1.symm HR.out.2.symm, HB1.out⟩
    · have HR := Lib.hid (bt_six (l := l) (f := f) (n := n) hs (fun e => by have := btE_zero.1 e; omega))
      have d1 : decide (f < 0) = false := decide_eq_false h
      have d2 : decide (1099511627776 < f) = false := decide_eq_false h2
      have d3 : decide (n < 0) = true := decide_eq_true h3
      clear hA hm hs
      go_enter Try.func13, Try.ntmps13
      go_wp2_with (go_at_call 20; (with_reducible refine HS0.out.mono ?_); rintro e w1 ⟨rfl, hb1⟩; have HB1 := Lib.hid hb1; clear hb1)
      go_ret2
      exact ⟨ret_2 HR.out.1.symm HR.out.2.symm, HB1.out⟩
    · have HR := Lib.hid (bt_six (l := l) (f := f) (n := n) hs (fun e => by have := btE_zero.1 e; omega))
      have d1 : decide (f < 0) = false := decide_eq_false h
      have d2 : decide (1099511627776 < f) = false := decide_eq_false h2
      have d3 : decide (n < 0) = false := decide_eq_false h3
      have d4 : decide (1099511627776 - f < n) = true := decide_eq_true h4
      clear hA hm hs
      go_enter Try.func13, Try.ntmps13
      go_wp2_with (go_at_call 20; (with_reducible refine HS0.out.mono ?_); rintro e w1 ⟨rfl, hb1⟩; have HB1 := Lib.hid hb1; clear hb1)
      go_ret2
      exact ⟨ret_2 HR.out.1.symm HR.out.2.symm, HB1.out⟩
    · have d1 : decide (f < 0) = false := decide_eq_false h
      have d2 : decide (1099511627776 < f) = false := decide_eq_false h2
      have d3 : decide (n < 0) = false := decide_eq_false h3
      have d4 : decide (1099511627776 - f < n) = false := decide_eq_false h4
      have hbt : btE l f n = prE l (f + n) := by unfold btE; rw [if_pos hs, inR_iff.2 (by omega), inR_iff.2 (by omega), if_neg (by decide)]
      have HA := Lib.hid hA
      have HP := Lib.hid (fun (n : Int) (v e : Int) (h1 : prV l n = v) (h2 : prE l n = e) (W : World) (h : SpR W A l) => refPrice_is (l := l) (n := n) (v := v) (e := e) (by unfold pcV; rw [if_pos hs]; exact h1) (by unfold pcE; rw [if_pos hs]; exact h2) A m c W h hm hc hcm)
      by_cases h0 : prE l (f + n) = 0
      · have g0 : prE l f = 0 := prE_less (by omega) (by omega) h0
        obtain ⟨a, ha⟩ : ∃ a, prV l (f + n) = a := ⟨_, rfl⟩
        obtain ⟨b, hb⟩ : ∃ b, prV l f = b := ⟨_, rfl⟩
        have ra : 0 ≤ a ∧ a ≤ 1125899906842624 := ha ▸ prV_range
        have rb : 0 ≤ b ∧ b ≤ 1125899906842624 := hb ▸ prV_range
        have HR : Hid (btV l f n = a - b ∧ btE l f n = 0) := Lib.hid ⟨by unfold btV; rw [hbt, if_pos h0, ha, hb], by rw [hbt, h0]⟩
        have HP1 := Lib.hid (HP.out (f + n) a 0 ha h0)
        have HP2 := Lib.hid (HP.out f b 0 hb g0)
        clear hA hm hs hbt HP ha hb h0 g0
        go_enter Try.func13, Try.ntmps13
        go_wp2_with (first
          | (go_at_call 20; (with_reducible refine HS0.out.mono ?_); rintro e w1 ⟨rfl, hb1⟩; have HB1 := Lib.hid hb1; clear hb1)
          | (go_at_call 11; (with_reducible refine (HP1.out _ (HA.out.below HB1.out rfl)).mono ?_); rintro e w3 ⟨rfl, hb3⟩; have HB3 := Lib.hid (below_then HB1.out (Nat.le_refl _) hb3); clear hb3)
          | (go_at_call 11; (with_reducible refine (HP2.out _ (HA.out.below HB3.out rfl)).mono ?_); rintro e w4 ⟨rfl, hb4⟩; have HB4 := Lib.hid (below_then HB3.out (Nat.le_refl _) hb4); clear hb4))
        go_ret2
        exact ⟨ret_2 HR.out.1.symm HR.out.2.symm, HB4.out⟩
      · have h6 : prE l (f + n) = 6 := by rcases prE_cases l (f + n) with e | e; exact absurd e h0; exact e
        have HR := Lib.hid (bt_six (l := l) (f := f) (n := n) hs (by rw [hbt]; exact h0))
        have HP1 := Lib.hid (HP.out (f + n) 0 6 (prV_six h0) h6)
        clear hA hm hs hbt HP h0 h6
        go_enter Try.func13, Try.ntmps13
        go_wp2_with (first
          | (go_at_call 20; (with_reducible refine HS0.out.mono ?_); rintro e w1 ⟨rfl, hb1⟩; have HB1 := Lib.hid hb1; clear hb1)
          | (go_at_call 11; (with_reducible refine (HP1.out _ (HA.out.below HB1.out rfl)).mono ?_); rintro e w3 ⟨rfl, hb3⟩; have HB3 := Lib.hid (below_then HB1.out (Nat.le_refl _) hb3); clear hb3))
        go_ret2
        exact ⟨ret_2 HR.out.1.symm HR.out.2.symm, HB3.out⟩
  · have HR := Lib.hid (bt_bad (l := l) (f := f) (n := n) hs)
    obtain ⟨v, hv⟩ : ∃ v, stepsE l = v := ⟨_, rfl⟩
    have HS0 := Lib.hid (hv ▸ refSteps_any A m c l w hA hm hc hcm)
    have d0 : (v != 0) = true := by rw [bne_iff_ne, ← hv]; exact hs
    clear hA hm hs hv
    go_enter Try.func13, Try.ntmps13
    go_wp2_with (go_at_call 20; (with_reducible refine HS0.out.mono ?_); rintro e w1 ⟨rfl, hb1⟩; have HB1 := Lib.hid hb1; clear hb1)
    go_ret2
    exact ⟨ret_2 HR.out.1.symm HR.out.2.symm, HB1.out⟩
theorem refBetween_is {l : List Sp} {f n v x : Int} (hv : btV l f n = v) (hx : btE l f n = x) (A : Option Addr) (m c : Nat) (w : World) (hA : SpR w A l) (hm : l.length = m) (hc : m ≤ c) (hcm : c ≤ maxLen) (hfr : -9223372036854775808 ≤ f ∧ f ≤ 9223372036854775807) (hnr : -9223372036854775808 ≤ n ∧ n ≤ 9223372036854775807) :
    Calls Try.prog 13 #[.slice A m c, .int .i64 f, .int .i64 n] w fun e w' => e = .returned (.tuple #[.int .i64 v, .int .i64 x]) ∧ Below w.heap.size w w' := by
  subst hv hx; exact refBetween_any A m c l f n w hA hm hc hcm hfr hnr

set_option maxHeartbeats 2000000 in
theorem marginal_any (A : Option Addr) (m c : Nat) (l : List Sp) (f : Int) (w : World) (hA : SpR w A l) (hm : l.length = m) (hc : m ≤ c) (hcm : c ≤ maxLen) :
    Calls Try.prog 14 #[.slice A m c, .int .i64 f] w fun e w' => e = .returned (.int .i64 (btV l f 1)) ∧ Below w.heap.size w w' := by
  have HB := Lib.hid (between_any A m c l f 1 w hA hm hc hcm)
  clear hA hm
  go_enter Try.func14, Try.ntmps14
  go_wp2_with (go_at_call 12; (with_reducible refine HB.out.mono ?_); rintro e w1 ⟨rfl, hb1⟩; have HB1 := Lib.hid hb1; clear hb1)
  go_ret
  exact ⟨rfl, HB1.out⟩
set_option maxHeartbeats 2000000 in
theorem refMarginal_any (A : Option Addr) (m c : Nat) (l : List Sp) (f : Int) (w : World) (hA : SpR w A l) (hm : l.length = m) (hc : m ≤ c) (hcm : c ≤ maxLen) (hfr : -9223372036854775808 ≤ f ∧ f ≤ 9223372036854775807) :
    Calls Try.prog 15 #[.slice A m c, .int .i64 f] w fun e w' => e = .returned (.int .i64 (btV l f 1)) ∧ Below w.heap.size w w' := by
  obtain ⟨x, hx⟩ : ∃ x, btE l f 1 = x := ⟨_, rfl⟩
  obtain ⟨v, hv⟩ : ∃ v, btV l f 1 = v := ⟨_, rfl⟩
  have HB := Lib.hid (refBetween_is hv hx A m c w hA hm hc hcm hfr (by decide))
  have HV : Hid (x ≠ 0 → v = 0) := Lib.hid (fun h => by rw [← hv]; exact btV_no (by rw [hx]; exact h))
  rw [hv]
  clear hA hm hx hv hfr
  by_cases h0 : x = 0
  · subst h0
    go_enter Try.func15, Try.ntmps15
    go_wp2_with (go_at_call 13; (with_reducible refine HB.out.mono ?_); rintro e w1 ⟨rfl, hb1⟩; have HB1 := Lib.hid hb1; clear hb1)
    go_ret
    exact ⟨rfl, HB1.out⟩
  · have d0 : (x != 0) = true := by rw [bne_iff_ne]; exact h0
    have HZ := Lib.hid (HV.out h0)
    clear h0 HV
    go_enter Try.func15, Try.ntmps15
    go_wp2_with (go_at_call 13; (with_reducible refine HB.out.mono ?_); rintro e w1 ⟨rfl, hb1⟩; have HB1 := Lib.hid hb1; clear hb1)
    go_ret
    exact ⟨ret_i HZ.out.symm, HB1.out⟩
end Go.Proofs.Ytcjceecdcjjnfaa.Ck
