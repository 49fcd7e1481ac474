/- Plain facts: the order of strings is total. -/
import Derived.Test.YtflonakoagjmhaaDigCmp
import Derived.Lib.Strings
namespace Go.Proofs.Ytflonakoagjmhaa
open Go.RowKit

theorem less_asymm : ∀ a b : List UInt8, Op.bytesLess a b = true → Op.bytesLess b a = false
  | [], [], _ => rfl
  | [], _ :: _, _ => rfl
  | _ :: _, [], h => by simp [Op.bytesLess] at h
  | x :: a, y :: b, h => by
    simp only [Op.bytesLess, Bool.or_eq_true, decide_eq_true_eq, Bool.and_eq_true, beq_iff_eq] at h
    simp only [Op.bytesLess, Bool.or_eq_false_iff, decide_eq_false_iff_not, Bool.and_eq_false_iff]
    rcases h with h | ⟨h, h2⟩
    · refine ⟨?_, .inl ?_⟩
      · intro h3; rw [UInt8.lt_iff_toNat_lt] at h h3; omega
      · simp only [beq_eq_false_iff_ne]; intro h3; subst h3; exact UInt8.lt_irrefl _ h
    · subst h
      exact ⟨UInt8.lt_irrefl _, .inr (less_asymm a b h2)⟩
theorem less_total : ∀ a b : List UInt8, Op.bytesLess a b = false → (a == b) = false → Op.bytesLess b a = true
  | [], [], _, h => by simp at h
  | [], _ :: _, h, _ => by simp [Op.bytesLess] at h
  | _ :: _, [], _, _ => rfl
  | x :: a, y :: b, h, h2 => by
    simp only [Op.bytesLess, Bool.or_eq_false_iff, decide_eq_false_iff_not, Bool.and_eq_false_iff] at h
    simp only [Op.bytesLess, Bool.or_eq_true, decide_eq_true_eq, Bool.and_eq_true, beq_iff_eq]
    by_cases hxy : x = y
    · subst hxy
      have h3 : Op.bytesLess a b = false := by simpa using h.2
      have h4 : (a == b) = false := by simpa using h2
      exact .inr ⟨rfl, less_total a b h3 h4⟩
    · left
      have h5 := h.1
      rw [UInt8.lt_iff_toNat_lt] at h5 ⊢
      have : x.toNat ≠ y.toNat := fun e => hxy (UInt8.toNat_inj.1 e)
      omega
theorem less_trans : ∀ a b c : List UInt8, Op.bytesLess a b = true → Op.bytesLess b c = true → Op.bytesLess a c = true
  | _, [], _, h, _ => by simp [Op.bytesLess] at h
  | _, _ :: _, [], _, h => by simp [Op.bytesLess] at h
  | [], _ :: _, _ :: _, _, _ => rfl
  | x :: a, y :: b, z :: c, h, h2 => by
    simp only [Op.bytesLess, Bool.or_eq_true, decide_eq_true_eq, Bool.and_eq_true, beq_iff_eq] at h h2 ⊢
    rcases h with h | ⟨h, h'⟩ <;> rcases h2 with h2 | ⟨h2, h2'⟩
    · left; rw [UInt8.lt_iff_toNat_lt] at *; omega
    · left; subst h2; exact h
    · left; subst h; exact h2
    · subst h; subst h2; exact .inr ⟨rfl, less_trans a b c h' h2'⟩
theorem size_of_toList {a b : ByteArray} (h : (a.toList == b.toList) = true) : a = b := by
  have := eq_of_beq h
  rw [Lib.toList_data, Lib.toList_data] at this
  exact ByteArray.ext (Array.toList_inj.1 this)
/-- How three comparisons hang together. -/
theorem cmp_cases (a b : ByteArray) : (cmpS a b = -1 ∧ (a.size < b.size ∨ a.size = b.size ∧ Op.bytesLess a.toList b.toList = true)) ∨ (cmpS a b = 0 ∧ a = b) ∨
    (cmpS a b = 1 ∧ (b.size < a.size ∨ a.size = b.size ∧ Op.bytesLess b.toList a.toList = true)) := by
  rcases Nat.lt_trichotomy a.size b.size with h | h | h
  · exact .inl ⟨cmp_shorter h, .inl h⟩
  · cases g1 : Op.bytesLess a.toList b.toList with
    | true => exact .inl ⟨cmp_less h g1, .inr ⟨h, rfl⟩⟩
    | false =>
      cases g2 : (a.toList == b.toList) with
      | true => exact .inr (.inl ⟨cmp_same h g1 g2, size_of_toList g2⟩)
      | false => exact .inr (.inr ⟨cmp_greater h g1 g2, .inr ⟨h, less_total _ _ g1 g2⟩⟩)
  · exact .inr (.inr ⟨cmp_longer h, .inl h⟩)
/-- Less, as a relation. -/
def lessS (a b : ByteArray) : Prop := a.size < b.size ∨ a.size = b.size ∧ Op.bytesLess a.toList b.toList = true
theorem lessS_irrefl (a : ByteArray) : ¬ lessS a a := by
  rintro (h | ⟨_, h⟩)
  · omega
  · rw [less_irrefl] at h; cases h
theorem lessS_trans {a b c : ByteArray} (h : lessS a b) (h2 : lessS b c) : lessS a c := by
  rcases h with h | ⟨h, h'⟩ <;> rcases h2 with h2 | ⟨h2, h2'⟩
  · exact .inl (by omega)
  · exact .inl (by omega)
  · exact .inl (by omega)
  · exact .inr ⟨by omega, less_trans _ _ _ h' h2'⟩
theorem cmp_three (a b : ByteArray) : (cmpS a b = -1 ∧ lessS a b) ∨ (cmpS a b = 0 ∧ a = b) ∨ (cmpS a b = 1 ∧ lessS b a) := by
  rcases cmp_cases a b with ⟨h, h2⟩ | h | ⟨h, h2⟩
  · exact .inl ⟨h, h2⟩
  · exact .inr (.inl h)
  · refine .inr (.inr ⟨h, ?_⟩)
    rcases h2 with h2 | ⟨h2, h3⟩
    · exact .inl h2
    · exact .inr ⟨h2.symm, h3⟩
theorem cmp_neg (a b : ByteArray) : cmpS b a = - cmpS a b := by
  rcases cmp_three a b with ⟨h, h2⟩ | ⟨h, rfl⟩ | ⟨h, h2⟩
  · rcases cmp_three b a with ⟨g, g2⟩ | ⟨g, rfl⟩ | ⟨g, g2⟩
    · exact absurd (lessS_trans h2 g2) (lessS_irrefl _)
    · exact absurd h2 (lessS_irrefl _)
    · rw [g, h]; rfl
  · rw [h]; rfl
  · rcases cmp_three b a with ⟨g, g2⟩ | ⟨g, rfl⟩ | ⟨g, g2⟩
    · rw [g, h]
    · exact absurd h2 (lessS_irrefl _)
    · exact absurd (lessS_trans h2 g2) (lessS_irrefl _)
theorem eq_iff_zero (a b : ByteArray) : (a.toList == b.toList) = decide (cmpS a b = 0) := by
  rcases cmp_three a b with ⟨h, h2⟩ | ⟨h, rfl⟩ | ⟨h, h2⟩
  · rw [h]
    have : ¬ (a.toList == b.toList) = true := fun e => by have := size_of_toList e; subst this; exact lessS_irrefl _ h2
    simpa using this
  · rw [h]; simp
  · rw [h]
    have : ¬ (a.toList == b.toList) = true := fun e => by have := size_of_toList e; subst this; exact lessS_irrefl _ h2
    simpa using this
theorem prefix_cmp {a b : ByteArray} (h : Lib.hasPrefix a.data.toList b.data.toList = true) : cmpS a b = 0 ∨ cmpS a b = 1 := by
  have h2 := Lib.hasPrefix_of_take a.data.toList b.data.toList
  rw [h] at h2
  simp only [Bool.and_eq_true, decide_eq_true_eq] at h2
  obtain ⟨h3, h4⟩ := h2
  rw [len_data, len_data] at h3
  rcases Nat.lt_or_ge b.size a.size with h5 | h5
  · exact .inr (cmp_longer h5)
  · left
    have h6 := eq_of_beq h4
    rw [List.take_of_length_le (by rw [len_data, len_data]; exact h5)] at h6
    have : a = b := ByteArray.ext (Array.toList_inj.1 h6)
    subst this
    exact cmp_same rfl (less_irrefl _) (by simp)
theorem cmp_trans_le {a b c : ByteArray} (h : cmpS a b ≤ 0) (h2 : cmpS b c ≤ 0) : cmpS a c ≤ 0 := by
  rcases cmp_three a b with ⟨g, g2⟩ | ⟨g, rfl⟩ | ⟨g, g2⟩
  · rcases cmp_three b c with ⟨k, k2⟩ | ⟨k, rfl⟩ | ⟨k, k2⟩
    · rcases cmp_three a c with ⟨m, m2⟩ | ⟨m, rfl⟩ | ⟨m, m2⟩
      · omega
      · omega
      · exact absurd (lessS_trans (lessS_trans g2 k2) m2) (lessS_irrefl _)
    · omega
    · omega
  · exact h2
  · omega
theorem cmp_trans_ge {a b c : ByteArray} (h : 0 ≤ cmpS a b) (h2 : 0 ≤ cmpS b c) : 0 ≤ cmpS a c := by
  have := cmp_trans_le (a := c) (b := b) (c := a) (by rw [cmp_neg b c]; omega) (by rw [cmp_neg a b]; omega)
  rw [cmp_neg a c] at this
  omega
theorem cmp_values (a b : ByteArray) : cmpS a b = -1 ∨ cmpS a b = 0 ∨ cmpS a b = 1 := by
  rcases cmp_three a b with ⟨g, _⟩ | ⟨g, _⟩ | ⟨g, _⟩
  · exact .inl g
  · exact .inr (.inl g)
  · exact .inr (.inr g)
end Go.Proofs.Ytflonakoagjmhaa
