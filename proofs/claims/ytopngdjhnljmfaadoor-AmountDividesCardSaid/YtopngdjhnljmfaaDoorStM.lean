/- Plain mathematics: the order of positions by their rests, the earlier first among equals; merging. -/
import Derived.WalkKit
namespace Go.Proofs.YtopngdjhnljmfaaDoor.St

/-- x comes before y. -/
def L (r : Int → Int) (x y : Int) : Prop := r y < r x ∨ (r x = r y ∧ x < y)
theorem L_trans {r : Int → Int} {x y z : Int} (h1 : L r x y) (h2 : L r y z) : L r x z := by unfold L at *; omega
theorem L_irrefl {r : Int → Int} {x : Int} (h : L r x x) : False := by unfold L at h; omega
theorem L_total {r : Int → Int} {x y : Int} (h : x ≠ y) : L r x y ∨ L r y x := by unfold L; omega
theorem L_cross {r : Int → Int} {x y : Int} (h : x < y) : (r x < r y ↔ L r y x) ∧ (¬ r x < r y ↔ L r x y) := by unfold L; omega
abbrev Srt (r : Int → Int) (l : List Int) : Prop := l.Pairwise (L r)
theorem srt_at {r : Int → Int} {l : List Int} (h : Srt r l) {i j : Nat} (hij : i < j) (hj : j < l.length) : L r (l.getD i 0) (l.getD j 0) := by
  have := List.pairwise_iff_getElem.1 h i j (by omega) hj hij
  simpa [List.getD, List.getElem?_eq_getElem hj, List.getElem?_eq_getElem (show i < l.length by omega)] using this
theorem mem_at {l : List Int} {i : Nat} (hi : i < l.length) : l.getD i 0 ∈ l := by simp [List.getD, List.getElem?_eq_getElem hi]
theorem of_mem {l : List Int} {x : Int} (h : x ∈ l) : ∃ i, i < l.length ∧ l.getD i 0 = x := by
  obtain ⟨i, hi, e⟩ := List.getElem_of_mem h
  exact ⟨i, hi, by simpa [List.getD, List.getElem?_eq_getElem hi] using e⟩
theorem cut2 (l : List Int) (k : Nat) (h : k ≤ l.length) : ∃ l1 l2, l = l1 ++ l2 ∧ l1.length = k ∧ l2.length = l.length - k ∧ (∀ i, i < k → l1.getD i 0 = l.getD i 0) ∧ (∀ i, l2.getD i 0 = l.getD (k + i) 0) := by
  refine ⟨l.take k, l.drop k, (List.take_append_drop k l).symm, by rw [List.length_take]; omega, by rw [List.length_drop], fun i hi => ?_, fun i => ?_⟩
  · simp [List.getD, List.getElem?_take, hi]
  · simp [List.getD, List.getElem?_drop]
/-- One element put into a sorted list. -/
theorem srt_put {r : Int → Int} {l1 l2 : List Int} {x : Int} (h : Srt r (l1 ++ l2)) (h1 : ∀ y ∈ l1, L r y x) (h2 : ∀ y ∈ l2, L r x y) : Srt r (l1 ++ x :: l2) := by
  unfold Srt at *
  rw [List.pairwise_append] at *
  obtain ⟨a, b, c⟩ := h
  refine ⟨a, List.pairwise_cons.2 ⟨h2, b⟩, fun y hy z hz => ?_⟩
  rcases List.mem_cons.1 hz with rfl | hz
  · exact h1 y hy
  · exact c y hy z hz
theorem srt_join {r : Int → Int} {l1 l2 : List Int} (h1 : Srt r l1) (h2 : Srt r l2) (h : ∀ x ∈ l1, ∀ y ∈ l2, L r x y) : Srt r (l1 ++ l2) := by
  unfold Srt at *
  rw [List.pairwise_append]
  exact ⟨h1, h2, h⟩
theorem srt_split {r : Int → Int} {l1 l2 : List Int} (h : Srt r (l1 ++ l2)) : Srt r l1 ∧ Srt r l2 ∧ ∀ x ∈ l1, ∀ y ∈ l2, L r x y := by
  unfold Srt at *
  rwa [List.pairwise_append] at h
/-- Where the halves of two sorted lists are parted: what the search by the middle gives. -/
theorem parted {r : Int → Int} {A1 A2 B1 B2 : List Int} (hA : Srt r (A1 ++ A2)) (hB : Srt r (B1 ++ B2))
    (h1 : 0 < A1.length → 0 < B2.length → L r (A1.getD (A1.length - 1) 0) (B2.getD 0 0))
    (h2 : 0 < A2.length → 0 < B1.length → L r (B1.getD (B1.length - 1) 0) (A2.getD 0 0)) :
    (∀ x ∈ A1, ∀ y ∈ B2, L r x y) ∧ (∀ x ∈ B1, ∀ y ∈ A2, L r x y) := by
  have last : ∀ {l : List Int}, Srt r l → ∀ x ∈ l, x = l.getD (l.length - 1) 0 ∨ L r x (l.getD (l.length - 1) 0) := by
    intro l hl x hx
    obtain ⟨i, hi, rfl⟩ := of_mem hx
    rcases Nat.lt_or_eq_of_le (show i ≤ l.length - 1 by omega) with h | h
    · exact .inr (srt_at hl h (by omega))
    · exact .inl (by rw [h])
  have first : ∀ {l : List Int}, Srt r l → ∀ x ∈ l, l.getD 0 0 = x ∨ L r (l.getD 0 0) x := by
    intro l hl x hx
    obtain ⟨i, hi, rfl⟩ := of_mem hx
    rcases Nat.eq_zero_or_pos i with h | h
    · exact .inl (by rw [h])
    · exact .inr (srt_at hl h hi)
  obtain ⟨a1, a2, _⟩ := srt_split hA
  obtain ⟨b1, b2, _⟩ := srt_split hB
  have go : ∀ {l m : List Int}, Srt r l → Srt r m → (0 < l.length → 0 < m.length → L r (l.getD (l.length - 1) 0) (m.getD 0 0)) → ∀ x ∈ l, ∀ y ∈ m, L r x y := by
    intro l m hl hm h x hx y hy
    have := h (List.length_pos_of_mem hx) (List.length_pos_of_mem hy)
    rcases last hl x hx with e | e <;> rcases first hm y hy with f | f
    · rw [e, ← f]; exact this
    · rw [e]; exact L_trans this f
    · rw [← f]; exact L_trans e this
    · exact L_trans e (L_trans this f)
  exact ⟨go a1 b2 h1, go b1 a2 fun p q => h2 q p⟩
end Go.Proofs.YtopngdjhnljmfaaDoor.St
