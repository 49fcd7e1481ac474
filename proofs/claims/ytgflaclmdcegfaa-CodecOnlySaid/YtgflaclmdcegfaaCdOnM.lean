/- Pure mathematics: what is read has exactly its bytes. -/
import Derived.Test.YtgflaclmdcegfaaCdS
import Derived.Test.YtgflaclmdcegfaaCdB
namespace Go.Proofs.Ytgflaclmdcegfaa
open Go.RowKit

theorem dec_bound : ∀ (b : List Int) (i acc u : Nat) (r : List Int), (∀ x ∈ b, 0 ≤ x ∧ x ≤ 255) → i ≤ 9 → acc < 128 ^ i → dec i acc b = (0, u, r) → u < 18446744073709551616 := by
  intro b
  induction b with
  | nil => intro i acc u r _ _ _ h; simp [dec] at h
  | cons x t ih =>
    intro i acc u r hb hi ha h
    have hx := hb x (List.mem_cons_self ..)
    simp only [dec] at h
    split at h
    · simp at h
    · rename_i h1
      split at h
      · rename_i h2
        have h9 : i ≠ 9 := by rintro rfl; exact h1 (.inl ⟨rfl, by omega⟩)
        refine ih (i + 1) _ u r (fun y hy => hb y (List.mem_cons_of_mem _ hy)) (by omega) ?_ h
        have h3 : (x % 128).toNat * 128 ^ i ≤ 127 * 128 ^ i := Nat.mul_le_mul_right _ (by omega)
        rw [Nat.pow_succ]; omega
      · simp only [Prod.mk.injEq] at h
        obtain ⟨_, rfl, rfl⟩ := h
        exact (or_step hi ha hx (by intro h9; by_cases hx1 : x = 1; exact hx1; exact absurd (.inl ⟨h9, hx1⟩) h1)).2
theorem numR_word {s : St} {n : Int} {r : List Int} (hb : ∀ x ∈ s.1, 0 ≤ x ∧ x ≤ 255) (h : numR s = (n, (r, 0))) : -9223372036854775808 ≤ n ∧ n ≤ 9223372036854775807 := by
  unfold numR at h
  split at h
  · split at h
    · rename_i h1
      simp only [Prod.mk.injEq, and_true] at h
      obtain ⟨rfl, rfl⟩ := h
      have := dec_bound s.1 0 0 (dec 0 0 s.1).2.1 (dec 0 0 s.1).2.2 hb (by omega) (by decide) (by rw [← h1])
      unfold unz; split <;> omega
    · rename_i h1
      simp only [Prod.mk.injEq] at h
      exact absurd h.2.2 h1
  · rename_i h0
    simp only [Prod.mk.injEq] at h
    exact absurd h.2.2 h0
/-- The bytes are bytes. -/
def BR (l : List Int) : Prop := ∀ x ∈ l, 0 ≤ x ∧ x ≤ 255
theorem BR.right {a b : List Int} (h : BR (a ++ b)) : BR b := fun x hx => h x (List.mem_append_right _ hx)
theorem numR_o {s : St} {n : Int} {r : List Int} (hb : BR s.1) (h : numR s = (n, (r, 0))) : s.1 = numE n ++ r ∧ s.2 = 0 ∧ BR r ∧ (-9223372036854775808 ≤ n ∧ n ≤ 9223372036854775807) := by
  obtain ⟨h1, h2⟩ := numR_only hb h
  exact ⟨h1, h2, (h1 ▸ hb : BR (numE n ++ r)).right, numR_word hb h⟩
theorem txtR_o {s : St} {t : ByteArray} {r : List Int} (hb : BR s.1) (h : txtR s = (t, (r, 0))) : s.1 = txtE t ++ r ∧ s.2 = 0 ∧ BR r ∧ t.size ≤ s.1.length := by
  unfold txtR at h
  split at h
  · rename_i h0
    obtain ⟨h1, h2, h3⟩ := lenR_ok h0
    split at h
    · simp at h
    · rename_i h4
      simp only [Prod.mk.injEq, and_true] at h
      obtain ⟨rfl, rfl⟩ := h
      have hn : numR s = ((lenR s).1, ((lenR s).2.1, 0)) := by rw [← h3]; exact Prod.ext rfl (Prod.ext rfl h0)
      obtain ⟨g1, g2, g3, g4⟩ := numR_o hb hn
      have htl : ((lenR s).2.1.take (lenR s).1.toNat).length = (lenR s).1.toNat := by rw [List.length_take]; omega
      have hst : BR ((lenR s).2.1.take (lenR s).1.toNat) := fun x hx => g3 x (List.mem_of_mem_take hx)
      refine ⟨?_, g2, fun x hx => g3 x (List.mem_of_mem_drop hx), ?_⟩
      · rw [txtE, strB_of hst, strOfNums_size, htl, List.append_assoc, List.take_append_drop, show (((lenR s).1.toNat : Nat) : Int) = (lenR s).1 by omega]
        exact g1
      · rw [strOfNums_size, htl, g1, List.length_append]; omega
  · rename_i h0
    simp only [Prod.mk.injEq] at h
    exact absurd h.2.2 h0
theorem boolR_o {s : St} {b : Bool} {r : List Int} (hb : BR s.1) (h : boolR s = (b, (r, 0))) : s.1 = numE (bnum b) ++ r ∧ s.2 = 0 ∧ BR r := by
  unfold boolR at h
  simp only [Prod.mk.injEq] at h
  obtain ⟨h1, h2⟩ := h
  split at h2
  · simp at h2
  · rename_i h3
    have hn : numR s = ((numR s).1, (r, 0)) := Prod.ext rfl h2
    obtain ⟨g1, g2, g3, _⟩ := numR_o hb hn
    refine ⟨?_, g2, g3⟩
    have : (numR s).1 = bnum b := by
      rw [← h1]; unfold bnum
      by_cases h5 : (numR s).1 = 1
      · simp [h5]
      · simp [h5]; omega
    rw [← this]; exact g1
theorem many_o : ∀ (k : Nat) (b zs r : List Int), BR b → many k b = (zs, (r, 0)) → b = listE zs ++ r ∧ zs.length = k ∧ BR r ∧ ∀ z ∈ zs, -9223372036854775808 ≤ z ∧ z ≤ 9223372036854775807
  | 0, b, zs, r, hb, h => by
    simp only [many, Prod.mk.injEq, and_true] at h
    obtain ⟨rfl, rfl⟩ := h
    exact ⟨rfl, rfl, hb, by simp⟩
  | k + 1, b, zs, r, hb, h => by
    simp only [many] at h
    split at h
    · rename_i h0
      split at h
      · rename_i h1
        simp only [Prod.mk.injEq] at h
        obtain ⟨rfl, h2⟩ := h
        have hn : numR (b, 0) = ((numR (b, 0)).1, ((numR (b, 0)).2.1, 0)) := Prod.ext rfl (Prod.ext rfl h0)
        obtain ⟨g1, _, g3, g4⟩ := numR_o (s := (b, 0)) hb hn
        have hm : many k (numR (b, 0)).2.1 = ((many k (numR (b, 0)).2.1).1, (r, 0)) := Prod.ext rfl h2
        obtain ⟨q1, q2, q3, q4⟩ := many_o k _ _ r g3 hm
        refine ⟨?_, by simp [q2], q3, ?_⟩
        · simp only at g1
          rw [listE, List.append_assoc, ← q1]; exact g1
        · intro z hz
          rcases List.mem_cons.1 hz with rfl | hz
          · exact g4
          · exact q4 z hz
      · rename_i h1
        simp only [Prod.mk.injEq] at h
        exact absurd h.2.2 h1
    · rename_i h0
      simp only [Prod.mk.injEq] at h
      exact absurd h.2.2 h0
theorem numsR_o {b zs r : List Int} (hb : BR b) (h : numsR (b, 0) = (zs, (r, 0))) : b = (numE zs.length ++ listE zs) ++ r ∧ ∀ z ∈ zs, -9223372036854775808 ≤ z ∧ z ≤ 9223372036854775807 := by
  unfold numsR at h
  split at h
  · rename_i h0
    obtain ⟨h1, h2, h3⟩ := lenR_ok h0
    have hn : numR (b, 0) = ((lenR (b, 0)).1, ((lenR (b, 0)).2.1, 0)) := by rw [← h3]; exact Prod.ext rfl (Prod.ext rfl h0)
    obtain ⟨g1, _, g3, g4⟩ := numR_o (s := (b, 0)) hb hn
    obtain ⟨q1, q2, _, q4⟩ := many_o _ _ _ r g3 h
    refine ⟨?_, q4⟩
    simp only at g1
    rw [List.append_assoc, ← q1, q2, show (((lenR (b, 0)).1.toNat : Nat) : Int) = (lenR (b, 0)).1 by omega]
    exact g1
  · rename_i h0
    simp only [Prod.mk.injEq] at h
    exact absurd h.2.2 h0
end Go.Proofs.Ytgflaclmdcegfaa
