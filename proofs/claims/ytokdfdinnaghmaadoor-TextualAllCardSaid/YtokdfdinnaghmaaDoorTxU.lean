/- Plain facts: texts as bytes; parts between separators. -/
import Derived.Laws.RangeAny
namespace Go.Proofs.YtokdfdinnaghmaaDoor.Tx
open Go

/-- How far a rune reaches: what lies in it is no ASCII. -/
theorem dec_width (s : ByteArray) (p : Nat) : (Utf8.decode s p).2 = 1 ∨ ((Utf8.decode s p).2 = 2 ∧ (p + 1 < s.size ∧ 128 ≤ (s.get! (p + 1)).toNat)) ∨
    ((Utf8.decode s p).2 = 3 ∧ (p + 1 < s.size ∧ 128 ≤ (s.get! (p + 1)).toNat) ∧ (p + 2 < s.size ∧ 128 ≤ (s.get! (p + 2)).toNat)) ∨
    ((Utf8.decode s p).2 = 4 ∧ (p + 1 < s.size ∧ 128 ≤ (s.get! (p + 1)).toNat) ∧ (p + 2 < s.size ∧ 128 ≤ (s.get! (p + 2)).toNat) ∧ (p + 3 < s.size ∧ 128 ≤ (s.get! (p + 3)).toNat)) := by
  have key : ∀ k, (decide (p + k < s.size) && (s.get! (p + k)).toNat / 64 == 2) = true → p + k < s.size ∧ 128 ≤ (s.get! (p + k)).toNat := fun k h => by
    simp only [Bool.and_eq_true, decide_eq_true_eq, beq_iff_eq] at h
    omega
  simp only [Utf8.decode]
  split
  · exact .inl rfl
  · split
    · rename_i h
      simp only [Bool.and_eq_true] at h
      have h1 := key 1 (by simpa using h.2)
      split
      · exact .inr (.inl ⟨rfl, h1⟩)
      · exact .inl rfl
    · split
      · rename_i h
        simp only [Bool.and_eq_true] at h
        have h1 := key 1 (by simpa using h.1.2)
        have h2 := key 2 (by simpa using h.2)
        split
        · exact .inr (.inr (.inl ⟨rfl, h1, h2⟩))
        · exact .inl rfl
      · split
        · rename_i h
          simp only [Bool.and_eq_true] at h
          have h1 := key 1 (by simpa using h.1.1.2)
          have h2 := key 2 (by simpa using h.1.2)
          have h3 := key 3 (by simpa using h.2)
          split
          · exact .inr (.inr (.inr ⟨rfl, h1, h2, h3⟩))
          · exact .inl rfl
        · exact .inl rfl
theorem get_is (s : ByteArray) (j : Nat) (h : j < s.size) : s.get! j = s[j] := by
  simp [ByteArray.get!, getElem!_pos, h]
  rfl
theorem dec_span {s : ByteArray} {p : Nat} (h : p < s.size) (ha : 128 ≤ (s[p]'h).toNat) : 1 ≤ (Utf8.decode s p).2 ∧ p + (Utf8.decode s p).2 ≤ s.size ∧ ∀ j (hj : j < s.size), p ≤ j → j < p + (Utf8.decode s p).2 → 128 ≤ (s[j]).toNat := by
  rcases dec_width s p with e | ⟨e, h1⟩ | ⟨e, h1, h2⟩ | ⟨e, h1, h2, h3⟩
  · rw [e]
    refine ⟨by omega, by omega, fun j hj a b => ?_⟩
    obtain rfl : j = p := by omega
    exact ha
  · rw [e]
    refine ⟨by omega, by omega, fun j hj a b => ?_⟩
    have hc : j = p ∨ j = p + 1 := by omega
    rcases hc with rfl | rfl
    · exact ha
    · rw [← get_is]; exact h1.2
  · rw [e]
    refine ⟨by omega, by omega, fun j hj a b => ?_⟩
    have hc : j = p ∨ j = p + 1 ∨ j = p + 2 := by omega
    rcases hc with rfl | rfl | rfl
    · exact ha
    · rw [← get_is]; exact h1.2
    · rw [← get_is]; exact h2.2
  · rw [e]
    refine ⟨by omega, by omega, fun j hj a b => ?_⟩
    have hc : j = p ∨ j = p + 1 ∨ j = p + 2 ∨ j = p + 3 := by omega
    rcases hc with rfl | rfl | rfl | rfl
    · exact ha
    · rw [← get_is]; exact h1.2
    · rw [← get_is]; exact h2.2
    · rw [← get_is]; exact h3.2
/-- The parts of a text between separators, behind what is read of the first. -/
def splA (c : UInt8) : List UInt8 → List UInt8 → List (List UInt8)
  | cur, [] => [cur]
  | cur, x :: t => if x = c then cur :: splA c [] t else splA c (cur ++ [x]) t
def spl (c : UInt8) (s : List UInt8) : List (List UInt8) := splA c [] s
theorem splA_far {c : UInt8} : ∀ (l cur t : List UInt8), (∀ x ∈ l, x ≠ c) → splA c cur (l ++ t) = splA c (cur ++ l) t
  | [], cur, t, _ => by simp
  | x :: l, cur, t, h => by
    rw [List.cons_append, splA, if_neg (h x (List.mem_cons_self ..)), splA_far l _ t (fun y hy => h y (List.mem_cons_of_mem _ hy)), List.append_assoc]
    rfl
theorem splA_sep {c : UInt8} (cur t : List UInt8) : splA c cur (c :: t) = cur :: splA c [] t := by rw [splA, if_pos rfl]
theorem splA_pos {c : UInt8} : ∀ (t cur : List UInt8), 1 ≤ (splA c cur t).length
  | [], _ => Nat.le_refl _
  | x :: t, cur => by
    rw [splA]
    split
    · simp
    · exact splA_pos t _
/-- The text of a list of parts. -/
def joinW (c : UInt8) : List (List UInt8) → List UInt8
  | [] => []
  | [w] => w
  | w :: v :: t => w ++ c :: joinW c (v :: t)
theorem splA_join {c : UInt8} : ∀ (t cur : List UInt8), joinW c (splA c cur t) = cur ++ t
  | [], cur => by simp [splA, joinW]
  | x :: t, cur => by
    rw [splA]
    split
    · rename_i h
      subst h
      have hp := splA_pos (c := x) t []
      have ih := splA_join (c := x) t []
      cases hs : splA x [] t with
      | nil => rw [hs] at hp; simp at hp
      | cons v r =>
        rw [joinW, ← hs, ih]
        rfl
    · rw [splA_join t _]; simp
theorem spl_join {c : UInt8} : ∀ (ws : List (List UInt8)), ws ≠ [] → (∀ w ∈ ws, ∀ x ∈ w, x ≠ c) → spl c (joinW c ws) = ws
  | [], h, _ => absurd rfl h
  | [w], _, h => by
    have := splA_far (c := c) w [] [] (h w (List.mem_cons_self ..))
    simpa [spl, joinW, splA] using this
  | w :: v :: t, _, h => by
    have h1 := splA_far (c := c) w [] (c :: joinW c (v :: t)) (h w (List.mem_cons_self ..))
    have ih := spl_join (c := c) (v :: t) (by simp) (fun w hw => h w (List.mem_cons_of_mem _ hw))
    unfold spl at ih ⊢
    rw [joinW, h1, List.nil_append, splA_sep, ih]
end Go.Proofs.YtokdfdinnaghmaaDoor.Tx
