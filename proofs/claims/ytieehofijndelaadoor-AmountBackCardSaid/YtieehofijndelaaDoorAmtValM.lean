/- Plain facts on the value of digits, and on the amount that a text denotes. -/
import Derived.Test.YtieehofijndelaaDoorAmtPar2
namespace Go.Proofs.YtieehofijndelaaDoor
open Go.RowKit

/-- The number that a byte denotes; the value of digits. -/
def dv (c : UInt8) : Int := (c.toNat : Int) - 48
def valL (l : List UInt8) : Int := l.foldl (fun n c => 10 * n + dv c) 0
theorem valL_snoc (l : List UInt8) (c : UInt8) : valL (l ++ [c]) = 10 * valL l + dv c := by simp [valL, List.foldl_append]
theorem dv_range {c : UInt8} (h : dgt c = true) : 0 ≤ dv c ∧ dv c ≤ 9 := by
  simp [dgt] at h; unfold dv; omega
theorem rev_ind {P : List UInt8 → Prop} (h0 : P []) (h1 : ∀ l c, P l → P (l ++ [c])) (l : List UInt8) : P l := by
  have key : ∀ m : List UInt8, P m.reverse := by
    intro m
    induction m with
    | nil => exact h0
    | cons c m ih => rw [List.reverse_cons]; exact h1 _ _ ih
  have := key l.reverse
  rwa [List.reverse_reverse] at this
theorem valL_nonneg : ∀ (l : List UInt8), l.all dgt = true → 0 ≤ valL l := by
  refine rev_ind (by intro _; simp [valL]) ?_
  · intro l c ih h
    rw [all_snoc] at h
    simp only [Bool.and_eq_true] at h
    rw [valL_snoc]
    have h1 := ih h.1
    have h2 := dv_range h.2
    omega
theorem pow_succ' (n : Nat) : (10 : Int) ^ (n + 1) = 10 * 10 ^ n := by rw [Int.pow_succ]; omega
theorem pow_one_le (n : Nat) : 1 ≤ (10 : Int) ^ n := by
  induction n with
  | zero => simp
  | succ n ih => rw [pow_succ']; omega
theorem valL_lt : ∀ (l : List UInt8), l.all dgt = true → valL l < 10 ^ l.length := by
  refine rev_ind (by intro _; simp [valL]) ?_
  · intro l c ih h
    rw [all_snoc] at h
    simp only [Bool.and_eq_true] at h
    rw [valL_snoc, List.length_append, List.length_singleton, pow_succ']
    have h1 := ih h.1
    have h2 := dv_range h.2
    omega
/-- A number of digits without a zero in front is as long as it looks. -/
theorem valL_ge : ∀ (l : List UInt8), l.all dgt = true → l ≠ [] → l.head? ≠ some 48 → 10 ^ (l.length - 1) ≤ valL l := by
  refine rev_ind (by intro _ h; exact absurd rfl h) ?_
  · intro l c ih h _ h3
    rw [all_snoc] at h
    simp only [Bool.and_eq_true] at h
    rw [valL_snoc, List.length_append, List.length_singleton, Nat.add_sub_cancel]
    have h2 := dv_range h.2
    by_cases hl : l = []
    · subst hl
      have : dv c ≠ 0 := by
        intro e
        apply h3
        simp only [List.nil_append, List.head?_cons, Option.some.injEq]
        apply UInt8.toNat_inj.1
        unfold dv at e
        have : (48 : UInt8).toNat = 48 := rfl
        omega
      simp [valL]; omega
    · have h4 := ih h.1 hl (by
        intro e; apply h3
        cases l with
        | nil => exact absurd rfl hl
        | cons a l => simpa using e)
      have : l.length = (l.length - 1) + 1 := by
        have := List.length_pos_iff.2 hl
        omega
      rw [this, pow_succ']
      omega

/-- The digits of a text, and what it denotes. -/
def digL (l : List UInt8) : List UInt8 := cutA (posL l) 46 ++ cutB (posL l) 46
def psV (l : List UInt8) : Int := if synB l && decide (valL (digL l) ≤ 1125899906842624) then (if posL l == l then valL (digL l) else - valL (digL l)) else 0
def psE (l : List UInt8) : Int := if synB l then (if decide (valL (digL l) ≤ 1125899906842624) then 0 else 6) else 1
theorem ps_bad {l : List UInt8} (h : synB l = false) : psV l = 0 ∧ psE l = 1 := by simp [psV, psE, h]
theorem ps_big {l : List UInt8} (h : synB l = true) (h2 : 1125899906842624 < valL (digL l)) : psV l = 0 ∧ psE l = 6 := by
  have e : decide (valL (digL l) ≤ 1125899906842624) = false := decide_eq_false (by omega)
  simp only [psV, psE, h, e]; simp
theorem ps_pos {l : List UInt8} (h : synB l = true) (h2 : valL (digL l) ≤ 1125899906842624) (h3 : posL l = l) : psV l = valL (digL l) ∧ psE l = 0 := by
  simp [psV, psE, h, h2, h3]
theorem ps_neg {l : List UInt8} (h : synB l = true) (h2 : valL (digL l) ≤ 1125899906842624) (h3 : posL l ≠ l) : psV l = - valL (digL l) ∧ psE l = 0 := by
  simp [psV, psE, h, h2, h3]
theorem syn_digits {l : List UInt8} (h : synB l = true) : (digL l).all dgt = true ∧ cutB (posL l) 46 ≠ [] ∧ 5 ≤ (digL l).length ∧ ((digL l).head? ≠ some 48 ∨ (digL l).length = 5) := by
  simp only [synB, Bool.and_eq_true] at h
  obtain ⟨⟨h1, h2⟩, _⟩ := h
  simp only [fraB, allD, Bool.and_eq_true, decide_eq_true_eq] at h2
  simp only [quoB, allD, Bool.or_eq_true, Bool.and_eq_true] at h1
  have hb : cutB (posL l) 46 ≠ [] := by intro e; rw [e] at h2; simp at h2
  rcases h1 with h1 | ⟨⟨h1, h3⟩, h4⟩
  · have e := eq_of_beq h1
    refine ⟨?_, hb, ?_, .inr ?_⟩
    · unfold digL; rw [e, List.all_append, h2.2]; rfl
    · unfold digL; rw [e]; simp [h2.1]
    · unfold digL; rw [e]; simp [h2.1]
  · have hne : cutA (posL l) 46 ≠ [] := by intro e; rw [e] at h3; simp at h3
    have hl := List.length_pos_iff.2 hne
    refine ⟨?_, hb, ?_, .inl ?_⟩
    · unfold digL; rw [List.all_append, h1, h2.2]; rfl
    · unfold digL; rw [List.length_append, h2.1]; omega
    · unfold digL
      intro e
      cases hq : cutA (posL l) 46 with
      | nil => exact hne hq
      | cons a r =>
        rw [hq] at e h4
        simp at e h4
        exact h4 e
end Go.Proofs.YtieehofijndelaaDoor
