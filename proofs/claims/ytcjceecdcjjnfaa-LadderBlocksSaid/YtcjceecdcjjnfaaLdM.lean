/- What a ladder charges for units: the begun blocks of each step. -/
import Derived.Test.YtcjceecdcjjnfaaCkM
namespace Go.Proofs.Ytcjceecdcjjnfaa.Ck

/-- How many of n units fall into a step. -/
def unN (l : List Sp) (n i : Nat) : Nat := ((if i + 1 = l.length then (n : Int) else min (n : Int) (l.getD i sp0).up) - prv l i).toNat
/-- Begun blocks. -/
def ceilN (u q : Nat) : Nat := (u + q - 1) / q
def cstN (l : List Sp) (n i : Nat) : Nat := (l.getD i sp0).pr.toNat * ceilN (unN l n i) (l.getD i sp0).qu.toNat
def sumF (f : Nat → Nat) : Nat → Nat → Nat
  | _, 0 => 0
  | k, m + 1 => f k + sumF f (k + 1) m
def prcN (l : List Sp) (n : Nat) : Nat := sumF (cstN l n) 0 l.length
theorem sumF_next {f : Nat → Nat} {k n : Nat} (hk : k < n) : sumF f k (n - k) = f k + sumF f (k + 1) (n - (k + 1)) := by
  obtain ⟨m, rfl⟩ : ∃ m, n = k + 1 + m := ⟨n - (k + 1), by omega⟩
  rw [show k + 1 + m - k = m + 1 by omega, show k + 1 + m - (k + 1) = m by omega]; rfl
theorem sumF_end {f : Nat → Nat} {k : Nat} : sumF f k (k - k) = 0 := by rw [Nat.sub_self]; rfl
theorem sumF_mono {f g : Nat → Nat} : ∀ {m k : Nat}, (∀ i, f i ≤ g i) → sumF f k m ≤ sumF g k m
  | 0, _, _ => Nat.le_refl _
  | m + 1, k, h => Nat.add_le_add (h k) (sumF_mono (m := m) (k := k + 1) h)
theorem unN_mono {l : List Sp} {a b i : Nat} (h : a ≤ b) : unN l a i ≤ unN l b i := by
  unfold unN; split <;> omega
theorem ceilN_mono {a b q : Nat} (h : a ≤ b) : ceilN a q ≤ ceilN b q := Nat.div_le_div_right (by omega)
theorem ceilN_le {u q : Nat} (hq : 1 ≤ q) : ceilN u q ≤ u := by
  unfold ceilN
  rw [Nat.div_le_iff_le_mul_add_pred hq]
  rcases Nat.eq_zero_or_pos u with rfl | hu
  · omega
  · have : u ≤ q * u := Nat.le_mul_of_pos_left u hq
    omega
theorem cstN_mono {l : List Sp} {a b : Nat} (h : a ≤ b) (i : Nat) : cstN l a i ≤ cstN l b i := Nat.mul_le_mul_left _ (ceilN_mono (unN_mono h))
theorem prcN_mono {l : List Sp} {a b : Nat} (h : a ≤ b) : prcN l a ≤ prcN l b := sumF_mono (cstN_mono h)

/-- A ladder that is valid. -/
structure OkL (l : List Sp) : Prop where
  pos : 1 ≤ l.length
  len : l.length ≤ 64
  up0 : ∀ i, i < l.length → 0 ≤ (l.getD i sp0).up ∧ (l.getD i sp0).up ≤ 1099511627776
  qu : ∀ i, i < l.length → 1 ≤ (l.getD i sp0).qu ∧ (l.getD i sp0).qu ≤ 1099511627776
  pr : ∀ i, i < l.length → 0 ≤ (l.getD i sp0).pr ∧ (l.getD i sp0).pr ≤ 1125899906842624
  last : ∀ i, i < l.length → ((l.getD i sp0).up = 0 ↔ i + 1 = l.length)
  asc : ∀ i, i + 1 < l.length → prv l i < (l.getD i sp0).up
theorem inR_iff {n a b : Int} : inB n a b = true ↔ a ≤ n ∧ n ≤ b := by simp [inB]
theorem ok_of {l : List Sp} (h : stepsE l = 0) : OkL l := by
  unfold stepsE at h
  split at h
  · exact absurd h (by decide)
  · rename_i h1
    split at h
    · exact absurd h (by decide)
    · rename_i h2
      have hz := fstN_zero.1 h
      have key : ∀ i, i < l.length → (inB (l.getD i sp0).up 0 1099511627776 = true ∧ inB (l.getD i sp0).qu 1 1099511627776 = true ∧ inB (l.getD i sp0).pr 0 1125899906842624 = true) ∧ decide (i + 1 = l.length) = decide ((l.getD i sp0).up = 0) ∧ (decide (i + 1 = l.length) = false → decide ((l.getD i sp0).up ≤ prv l i) = false) := by
        intro i hi
        have := hz i (by omega) (by omega)
        unfold spAt spE spV at this
        split at this
        · exact absurd this (by decide)
        · rename_i g1
          split at this
          · exact absurd this (by decide)
          · rename_i g2
            split at this
            · exact absurd this (by decide)
            · rename_i g3
              refine ⟨?_, Decidable.not_not.1 g2, ?_⟩
              · simp only [not_or, Bool.not_eq_false] at g1; exact g1
              · intro g
                cases e : decide ((l.getD i sp0).up ≤ prv l i)
                · rfl
                · exact absurd ⟨g, e⟩ g3
      refine ⟨by omega, by omega, fun i hi => inR_iff.1 (key i hi).1.1, fun i hi => inR_iff.1 (key i hi).1.2.1, fun i hi => inR_iff.1 (key i hi).1.2.2, fun i hi => ?_, fun i hi => ?_⟩
      · have := (key i hi).2.1
        constructor
        · intro e; rw [decide_eq_true e] at this; exact of_decide_eq_true this
        · intro e; rw [decide_eq_true e] at this; exact of_decide_eq_true this.symm
      · have := (key i (by omega)).2.2 (decide_eq_false (by omega))
        have := of_decide_eq_false this
        omega
theorem OkL.prv0 {l : List Sp} (h : OkL l) {i : Nat} (hi : i ≤ l.length) : 0 ≤ prv l i ∧ prv l i ≤ 1099511627776 := by
  unfold prv
  split
  · omega
  · exact h.up0 (i - 1) (by omega)

/-- The price and the error of n units, for a ladder that is valid. -/
def prE (l : List Sp) (n : Int) : Int := if inB n 0 1099511627776 = false then 6 else if 1125899906842624 < prcN l n.toNat then 6 else 0
def prV (l : List Sp) (n : Int) : Int := if prE l n = 0 then (prcN l n.toNat : Int) else 0
/-- The same for any ladder. -/
def pcE (l : List Sp) (n : Int) : Int := if stepsE l = 0 then prE l n else 8
def pcV (l : List Sp) (n : Int) : Int := if stepsE l = 0 then prV l n else 0
/-- Units that follow others. -/
def btE (l : List Sp) (f n : Int) : Int := if stepsE l = 0 then (if inB f 0 1099511627776 = false ∨ inB n 0 1099511627776 = false then 6 else prE l (f + n)) else 8
def btV (l : List Sp) (f n : Int) : Int := if btE l f n = 0 then prV l (f + n) - prV l f else 0
theorem prE_zero {l : List Sp} {n : Int} : prE l n = 0 ↔ 0 ≤ n ∧ n ≤ 1099511627776 ∧ prcN l n.toNat ≤ 1125899906842624 := by
  unfold prE
  by_cases h : inB n 0 1099511627776 = false
  · rw [if_pos h]
    constructor
    · intro h; exact absurd h (by decide)
    · intro ⟨h1, h2, _⟩; rw [inR_iff.2 ⟨h1, h2⟩] at h; cases h
  · rw [if_neg h]
    have h := inR_iff.1 (Bool.not_eq_false _ ▸ h : inB n 0 1099511627776 = true)
    by_cases g : 1125899906842624 < prcN l n.toNat
    · rw [if_pos g]
      exact ⟨fun h => absurd h (by decide), fun ⟨_, _, h⟩ => by omega⟩
    · rw [if_neg g]
      exact ⟨fun _ => ⟨h.1, h.2, by omega⟩, fun _ => rfl⟩
theorem prE_cases (l : List Sp) (n : Int) : prE l n = 0 ∨ prE l n = 6 := by
  unfold prE; split
  · exact .inr rfl
  · split
    · exact .inr rfl
    · exact .inl rfl
theorem prE_less {l : List Sp} {a b : Int} (h0 : 0 ≤ a) (hab : a ≤ b) (h : prE l b = 0) : prE l a = 0 := by
  obtain ⟨h1, h2, h3⟩ := prE_zero.1 h
  exact prE_zero.2 ⟨h0, by omega, Nat.le_trans (prcN_mono (by omega)) h3⟩
theorem prV_zero {l : List Sp} {n : Int} (h : prE l n = 0) : prV l n = (prcN l n.toNat : Int) := by unfold prV; rw [if_pos h]
theorem prV_six {l : List Sp} {n : Int} (h : prE l n ≠ 0) : prV l n = 0 := by unfold prV; rw [if_neg h]
theorem prV_range {l : List Sp} {n : Int} : 0 ≤ prV l n ∧ prV l n ≤ 1125899906842624 := by
  rcases prE_cases l n with h | h
  · have := prE_zero.1 h; rw [prV_zero h]; omega
  · rw [prV_six (by rw [h]; decide)]; omega
theorem btE_zero {l : List Sp} {f n : Int} : btE l f n = 0 ↔ stepsE l = 0 ∧ 0 ≤ f ∧ 0 ≤ n ∧ f + n ≤ 1099511627776 ∧ prcN l (f + n).toNat ≤ 1125899906842624 := by
  unfold btE
  by_cases hs : stepsE l = 0
  · rw [if_pos hs]
    by_cases h : inB f 0 1099511627776 = false ∨ inB n 0 1099511627776 = false
    · rw [if_pos h]
      refine ⟨fun h => absurd h (by decide), fun ⟨_, h1, h2, h3, _⟩ => ?_⟩
      rw [inR_iff.2 ⟨h1, by omega⟩, inR_iff.2 ⟨h2, by omega⟩] at h
      rcases h with h | h <;> cases h
    · rw [if_neg h]
      simp only [not_or, Bool.not_eq_false] at h
      have h1 := inR_iff.1 h.1; have h2 := inR_iff.1 h.2
      rw [prE_zero]
      exact ⟨fun ⟨_, a, b⟩ => ⟨hs, h1.1, h2.1, a, b⟩, fun ⟨_, _, _, a, b⟩ => ⟨by omega, a, b⟩⟩
  · rw [if_neg hs]
    exact ⟨fun h => absurd h (by decide), fun h => absurd h.1 hs⟩
theorem btV_zero {l : List Sp} {f n : Int} (h : btE l f n = 0) : btV l f n = (prcN l (f + n).toNat : Int) - (prcN l f.toNat : Int) := by
  obtain ⟨hs, h1, h2, h3, h4⟩ := btE_zero.1 h
  have e1 : prE l (f + n) = 0 := prE_zero.2 ⟨by omega, h3, h4⟩
  unfold btV
  rw [if_pos h, prV_zero e1, prV_zero (prE_less h1 (by omega) e1)]
theorem btV_no {l : List Sp} {f n : Int} (h : btE l f n ≠ 0) : btV l f n = 0 := by unfold btV; rw [if_neg h]

/-- Does an amount pay for n units after f? -/
def paysB (l : List Sp) (f am n : Int) : Bool := decide (btE l f n = 0) && decide (btV l f n ≤ am)
theorem pays_iff {l : List Sp} {f am n : Int} : paysB l f am n = true ↔ btE l f n = 0 ∧ btV l f n ≤ am := by simp [paysB]
theorem pays_less {l : List Sp} {f am a b : Int} (h0 : 0 ≤ a) (hab : a ≤ b) (h : paysB l f am b = true) : paysB l f am a = true := by
  obtain ⟨h1, h2⟩ := pays_iff.1 h
  obtain ⟨hs, g1, g2, g3, g4⟩ := btE_zero.1 h1
  have e : btE l f a = 0 := btE_zero.2 ⟨hs, g1, h0, by omega, Nat.le_trans (prcN_mono (by omega)) g4⟩
  refine pays_iff.2 ⟨e, ?_⟩
  rw [btV_zero h1] at h2
  rw [btV_zero e]
  have : prcN l (f + a).toNat ≤ prcN l (f + b).toNat := prcN_mono (by omega)
  omega
/-- How many units an amount pays for. -/
def IsU (l : List Sp) (f am : Int) (u : Nat) : Prop := (paysB l f am 0 = false ∧ u = 0) ∨ (paysB l f am u = true ∧ paysB l f am (u + 1) = false)
theorem pays_max {l : List Sp} {f am n : Int} (h : paysB l f am n = true) : 0 ≤ f ∧ 0 ≤ n ∧ f + n ≤ 1099511627776 := by
  obtain ⟨_, h1, h2, h3, _⟩ := btE_zero.1 (pays_iff.1 h).1
  exact ⟨h1, h2, h3⟩
theorem isU_some (l : List Sp) (f am : Int) : ∃ u, IsU l f am u := by
  cases h0 : paysB l f am 0
  · exact ⟨0, .inl ⟨h0, rfl⟩⟩
  · have key : ∀ m : Nat, ∃ u : Nat, (paysB l f am u = true ∧ (paysB l f am (u + 1) = false ∨ u = m)) := by
      intro m
      induction m with
      | zero => exact ⟨0, h0, .inr rfl⟩
      | succ m ih =>
        obtain ⟨u, hu, h | rfl⟩ := ih
        · exact ⟨u, hu, .inl h⟩
        · cases g : paysB l f am ((u : Int) + 1)
          · exact ⟨u, hu, .inl g⟩
          · exact ⟨u + 1, by rw [Int.natCast_add]; exact g, .inr rfl⟩
    obtain ⟨u, hu, h | rfl⟩ := key 1099511627777
    · exact ⟨u, .inr ⟨hu, h⟩⟩
    · have := pays_max hu; omega
theorem IsU.pays {l : List Sp} {f am : Int} {u : Nat} (h : IsU l f am u) (h0 : paysB l f am 0 = true) : paysB l f am u = true ∧ paysB l f am (u + 1) = false := by
  rcases h with ⟨h, _⟩ | h
  · rw [h0] at h; cases h
  · exact h
theorem IsU.le {l : List Sp} {f am : Int} {u : Nat} (h : IsU l f am u) (h0 : paysB l f am 0 = true) {n : Nat} : paysB l f am n = decide (n ≤ u) := by
  obtain ⟨h1, h2⟩ := h.pays h0
  by_cases hn : n ≤ u
  · rw [decide_eq_true hn]; exact pays_less (by omega) (by omega) h1
  · rw [decide_eq_false hn]
    cases g : paysB l f am n
    · rfl
    · rw [pays_less (a := u + 1) (by omega) (by omega) g] at h2; cases h2
end Go.Proofs.Ytcjceecdcjjnfaa.Ck
