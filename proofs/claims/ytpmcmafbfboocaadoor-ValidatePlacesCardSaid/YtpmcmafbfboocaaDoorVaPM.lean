/- Lists that are parted: lengths, members, places. -/
import Derived.Test.YtpmcmafbfboocaaDoorVaR
namespace Go.Proofs.YtpmcmafbfboocaaDoor.Va

theorem parted (D : List Rc) (E : Nat → Int) : ∀ k, (pasN D E k).length + (rejD D E k).length = k
  | 0 => rfl
  | k + 1 => by
    have ih := parted D E k
    by_cases h : E k = 0
    · rw [pas_yes h, rejD_yes h, List.length_append]; simp; omega
    · rw [pas_no h, rejD_no h rfl, List.length_append]; simp; omega
theorem pas_mem {D : List Rc} {E : Nat → Int} {r : Rc} : ∀ {k}, r ∈ pasN D E k → ∃ i, i < k ∧ D.getD i rc0 = r ∧ E i = 0
  | 0, h => by simp [pasN] at h
  | k + 1, h => by
    by_cases he : E k = 0
    · rw [pas_yes he, List.mem_append, List.mem_singleton] at h
      rcases h with h | h
      · obtain ⟨i, h1, h2, h3⟩ := pas_mem h
        exact ⟨i, by omega, h2, h3⟩
      · exact ⟨k, by omega, h.symm, he⟩
    · rw [pas_no he] at h
      obtain ⟨i, h1, h2, h3⟩ := pas_mem h
      exact ⟨i, by omega, h2, h3⟩
theorem pas_whole (P : List Rc) (E : Nat → Int) : ∀ k, k ≤ P.length → (∀ i, i < k → E i = 0) → pasN P E k = P.take k ∧ rejD P E k = []
  | 0, _, _ => ⟨by rw [List.take_zero]; rfl, rfl⟩
  | k + 1, hk, h => by
    obtain ⟨h1, h2⟩ := pas_whole P E k (by omega) fun i hi => h i (by omega)
    refine ⟨?_, ?_⟩
    · rw [pas_yes (h k (by omega)), h1, List.take_succ_eq_append_getElem (by omega)]
      simp [List.getD, List.getElem?_eq_getElem (show k < P.length by omega)]
    · rw [rejD_yes (h k (by omega)), h2]
theorem rejD_more {D : List Rc} {E : Nat → Int} {k : Nat} : ∀ {m}, k ≤ m → ∃ t, rejD D E m = rejD D E k ++ t
  | 0, h => ⟨[], by obtain rfl : k = 0 := by omega
                    simp⟩
  | m + 1, h => by
    rcases Nat.lt_or_ge m k with h1 | h1
    · obtain rfl : k = m + 1 := by omega
      exact ⟨[], by simp⟩
    · obtain ⟨t, ht⟩ := rejD_more (D := D) (E := E) h1
      by_cases he : E m = 0
      · exact ⟨t, by rw [rejD_yes he, ht]⟩
      · exact ⟨t ++ [_], by rw [rejD_no he rfl, ht, List.append_assoc]⟩
theorem rejD_there {D : List Rc} {E : Nat → Int} {i m : Nat} {r : Rc} (hi : i < m) (he : E i ≠ 0) (hr : D.getD i rc0 = r) :
    (rejD D E i).length < (rejD D E m).length ∧ (rejD D E m).getD (rejD D E i).length rj0 = (r.s0, r.s1, (i : Int), E i) := by
  obtain ⟨t, ht⟩ := rejD_more (D := D) (E := E) (show i + 1 ≤ m from hi)
  rw [rejD_no he hr] at ht
  rw [ht]
  refine ⟨by simp, ?_⟩
  simp [List.getD]
/-- What is accepted is accepted again. -/
theorem again {D : List Rc} {lo hi : Int} {P : List Rc} (hP : pasN D (fun k => allE (D.getD k rc0) lo hi) D.length = P) :
    pasN P (fun k => allE (P.getD k rc0) lo hi) P.length = P ∧ rejD P (fun k => allE (P.getD k rc0) lo hi) P.length = [] := by
  have h := pas_whole P (fun k => allE (P.getD k rc0) lo hi) P.length (Nat.le_refl _) fun i hi' => by
    have hm : P.getD i rc0 ∈ P := by rw [List.getD_eq_getElem?_getD, List.getElem?_eq_getElem hi']; exact List.getElem_mem hi'
    have hm2 := hm
    rw [← hP] at hm2
    obtain ⟨j, h1, h2, h3⟩ := pas_mem hm2
    rw [hP] at h2
    show allE (P.getD i rc0) lo hi = 0
    rw [← h2]
    exact h3
  rw [List.take_length] at h
  exact h
theorem pas_of {D : List Rc} {E : Nat → Int} {P : List Rc} (hP : pasN D E D.length = P) (hD : ∀ r ∈ D, r.sa.size ≤ maxLen ∧ r.sb.size ≤ maxLen) : ∀ r ∈ P, r.sa.size ≤ maxLen ∧ r.sb.size ≤ maxLen := fun r hr => by
  rw [← hP] at hr
  obtain ⟨i, h1, h2, _⟩ := pas_mem hr
  refine hD r ?_
  rw [← h2, List.getD_eq_getElem?_getD, List.getElem?_eq_getElem h1]
  exact List.getElem_mem h1
end Go.Proofs.YtpmcmafbfboocaaDoor.Va
