/- Plain mathematics: the greatest rests, the earliest first, one after the other. -/
import Derived.Test.YtopngdjhnljmfaaDoorTotM
namespace Go.Proofs.YtopngdjhnljmfaaDoor
open Go.RowKit St

/-- A list some of whose elements are taken. -/
def markL (l : List Int) (σ : List Nat) : List Int := σ.foldl (fun q i => q.set i (-1)) l
theorem markL_length (σ : List Nat) : ∀ l : List Int, (markL l σ).length = l.length := by
  induction σ with
  | nil => intro l; rfl
  | cons i σ ih => intro l; show (markL (l.set i (-1)) σ).length = _; rw [ih, List.length_set]
theorem markL_snoc (l : List Int) (σ : List Nat) (i : Nat) : markL l (σ ++ [i]) = (markL l σ).set i (-1) := by
  unfold markL; rw [List.foldl_append]; rfl
theorem markL_at (σ : List Nat) : ∀ (l : List Int) (j : Nat), j < l.length → (markL l σ).getD j 0 = if j ∈ σ then -1 else l.getD j 0 := by
  induction σ with
  | nil => intro l j _; simp [markL]
  | cons i σ ih =>
    intro l j hj
    show (markL (l.set i (-1)) σ).getD j 0 = _
    rw [ih _ _ (by rw [List.length_set]; exact hj)]
    by_cases h1 : j ∈ σ
    · rw [if_pos h1, if_pos (List.mem_cons_of_mem _ h1)]
    · rw [if_neg h1]
      by_cases h2 : j = i
      · subst h2
        rw [if_pos (List.mem_cons_self ..)]
        simp [List.getD, List.getElem?_set, hj]
      · rw [if_neg (by simp [h1, h2])]
        simp only [List.getD, List.getElem?_set]
        rw [if_neg (fun h => h2 h.symm)]
/-- The best of the first k elements. -/
def Best (l : List Int) (k : Nat) (b : Int) : Prop := (b = -1 ∧ ∀ j, j < k → l.getD j 0 < 0) ∨ ∃ i : Nat, i < k ∧ b = i ∧ 0 ≤ l.getD i 0 ∧ (∀ j, j < k → l.getD j 0 ≤ l.getD i 0) ∧ ∀ j, j < i → l.getD j 0 < l.getD i 0
theorem Best.zero (l : List Int) : Best l 0 (-1) := .inl ⟨rfl, fun j h => absurd h (Nat.not_lt_zero j)⟩
theorem Best.skip {l : List Int} {k : Nat} {b x : Int} (h : Best l k b) (hx : l.getD k 0 = x) (h2 : x < 0 ∨ ∃ i : Nat, b = i ∧ x ≤ l.getD i 0) : Best l (k + 1) b := by
  rcases h with ⟨h, ha⟩ | ⟨i, hi, hb, h0, ha, hs⟩
  · rcases h2 with h2 | ⟨i, hb, _⟩
    · refine .inl ⟨h, fun j hj => ?_⟩
      rcases Nat.lt_or_ge j k with h' | h'
      · exact ha j h'
      · rw [show j = k by omega, hx]; exact h2
    · omega
  · refine .inr ⟨i, by omega, hb, h0, fun j hj => ?_, hs⟩
    rcases Nat.lt_or_ge j k with h' | h'
    · exact ha j h'
    · rw [show j = k by omega, hx]
      rcases h2 with h2 | ⟨i', hb', h2⟩
      · omega
      · obtain rfl : i = i' := by omega
        exact h2
theorem Best.take {l : List Int} {k : Nat} {b x : Int} (h : Best l k b) (hx : l.getD k 0 = x) (h0 : 0 ≤ x) (h2 : b = -1 ∨ ∃ i : Nat, b = i ∧ l.getD i 0 < x) : Best l (k + 1) k := by
  refine .inr ⟨k, by omega, rfl, by rw [hx]; exact h0, ?_, ?_⟩
  all_goals
    intro j hj
    rcases Nat.lt_or_ge j k with h' | h'
  · rw [hx]
    rcases h with ⟨_, ha⟩ | ⟨i, hi, hb, h0', ha, hs⟩
    · have := ha j h'; omega
    · rcases h2 with h2 | ⟨i', hb', h2⟩
      · omega
      · obtain rfl : i = i' := by omega
        have := ha j h'; omega
  · rw [show j = k by omega]; exact Int.le_refl _
  · rw [hx]
    rcases h with ⟨_, ha⟩ | ⟨i, hi, hb, h0', ha, hs⟩
    · have := ha j h'; omega
    · rcases h2 with h2 | ⟨i', hb', h2⟩
      · omega
      · obtain rfl : i = i' := by omega
        have := ha j h'; omega
  · omega
/-- The best of a list of which the first t places of the order are taken is the next one. -/
theorem best_next {rs C : List Int} {n t : Nat} {b : Int} {r : Int → Int} (hl : rs.length = n) (hr : ∀ i : Nat, i < n → rs.getD i 0 = r i) (h0 : ∀ i : Nat, i < n → 0 ≤ r i) (h : SP r 0 n C) (ht : t < n)
    (hb : Best (markL rs ((nats C).take t)) n b) : b = ((nats C)[t]?.getD 0 : Nat) ∧ (nats C)[t]?.getD 0 < n := by
  have hnd := nats_nodup h
  have hcl : (nats C).length = n := by rw [nats_length, h.length]; omega
  obtain ⟨c1, c2⟩ := nats_at h ht
  obtain ⟨c, hc⟩ : ∃ c, (nats C)[t]?.getD 0 = c := ⟨_, rfl⟩
  rw [hc] at c1 c2 ⊢
  have hct : (nats C)[t]'(by omega) = c := by rw [← hc, List.getElem?_eq_getElem (by omega)]; rfl
  have hcn : ¬ c ∈ (nats C).take t := by
    intro hm
    obtain ⟨j, hj, he⟩ := List.getElem_of_mem hm
    rw [List.length_take] at hj
    rw [List.getElem_take] at he
    have := (List.pairwise_iff_getElem.1 hnd) j t (by omega) (by omega) (by omega)
    rw [he, hct] at this
    exact this rfl
  have hlc : (markL rs ((nats C).take t)).getD c 0 = r c := by rw [markL_at _ _ _ (by omega), if_neg hcn, hr c c2]
  refine ⟨?_, c2⟩
  rcases hb with ⟨_, ha⟩ | ⟨i, hi, rfl, hi0, ha, hs⟩
  · have h1 := ha c c2
    rw [hlc] at h1
    have := h0 c c2
    omega
  · by_cases hic : i = c
    · rw [hic]
    · exfalso
      have him : ¬ i ∈ (nats C).take t := by
        intro hm
        rw [markL_at _ _ _ (by omega), if_pos hm] at hi0
        omega
      have hli : (markL rs ((nats C).take t)).getD i 0 = r i := by rw [markL_at _ _ _ (by omega), if_neg him, hr i hi]
      have hmem : (i : Int) ∈ C := h.1.mem_iff.2 (rg_mem.2 (by omega))
      obtain ⟨j, hj, hje⟩ := of_mem hmem
      have hjn : j < n := by rw [h.length] at hj; omega
      have hjt : t < j := by
        rcases Nat.lt_trichotomy j t with h' | h' | h'
        · exfalso
          apply him
          have e := (nats_at h hjn).1
          rw [hje] at e
          have e2 : (nats C)[j]?.getD 0 = i := by omega
          rw [List.getElem?_eq_getElem (by omega)] at e2
          simp only [Option.getD_some] at e2
          rw [List.mem_take_iff_getElem]
          exact ⟨j, by omega, e2⟩
        · subst h'
          rw [hje] at c1
          omega
        · exact h'
      have hL := srt_at h.2 hjt (by omega)
      rw [c1, hje] at hL
      have h1 := ha c c2
      rw [hlc, hli] at h1
      unfold L at hL
      rcases hL with hL | ⟨hL, hlt⟩
      · omega
      · have h2 := hs c (by omega)
        rw [hlc, hli] at h2
        omega
end Go.Proofs.YtopngdjhnljmfaaDoor
