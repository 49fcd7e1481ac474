/- Walk of the reference: whether a prefix occurs before. -/
import Derived.Test.YtbfficialcnedaaZnRm
import Derived.Deep.Quiet
namespace Go.Proofs.Ytbfficialcnedaa.Zn
open Go.RowKit Go.Proofs.Ytbfficialcnedaa Go.Maps

/-- The prefixes ahead of the prefix k of zone i. -/
def pre (l : List Zm) (i k : Nat) : List (Wd × Wd) := pairs (zos (l.take i)) ++ mk (l.getD i zm0).nm.data.toList (((l.getD i zm0).ps.take k).map fun p => p.data.toList)
theorem pre_zero (l : List Zm) (i : Nat) : pre l i 0 = pairs (zos (l.take i)) := by simp [pre, mk]
theorem pre_full (l : List Zm) (i : Nat) (h : i < l.length) : pre l i (l.getD i zm0).ps.length = pairs (zos (l.take (i + 1))) := by
  rw [zos_take h rfl, pairs_snoc]
  unfold pre
  rw [List.take_length]; rfl
theorem ps_take {ps : List ByteArray} {k : Nat} (h : k < ps.length) : (ps.take (k + 1)).map (fun p => p.data.toList) = (ps.take k).map (fun p => p.data.toList) ++ [(ps.getD k ⟨#[]⟩).data.toList] := by
  rw [List.take_succ_eq_append_getElem h, List.map_append, List.getD_eq_getElem?_getD, List.getElem?_eq_getElem h]; rfl
theorem pre_succ (l : List Zm) (i k : Nat) (hk : k < (l.getD i zm0).ps.length) : pre l i (k + 1) = pre l i k ++ [(((l.getD i zm0).ps.getD k ⟨#[]⟩).data.toList, (l.getD i zm0).nm.data.toList)] := by
  unfold pre
  rw [ps_take hk, mk_app, List.append_assoc]; rfl
theorem anyP_one (p q s : Wd) : anyP [(p, q)] s = (p == s) := by simp [anyP]
theorem pre_next {l : List Zm} {i k : Nat} {s : Wd} (hk : k < (l.getD i zm0).ps.length) : anyP (pre l i (k + 1)) s = (anyP (pre l i k) s || (((l.getD i zm0).ps.getD k ⟨#[]⟩).data.toList == s)) := by
  rw [pre_succ l i k hk, anyP_app, anyP_one]
/-- More is ahead of a later place. -/
theorem pre_mono {l : List Zm} {i k a b : Nat} {s : Wd} (hi : i < l.length) (h : a < i ∧ b ≤ (l.getD a zm0).ps.length ∨ a = i ∧ b ≤ k) (ht : anyP (pre l a b) s = true) : anyP (pre l i k) s = true := by
  have hmk : ∀ (a b c : Nat), b ≤ c → anyP (pre l a b) s = true → anyP (pre l a c) s = true := by
    intro a b c hbc h
    unfold pre at *
    rw [anyP_app, Bool.or_eq_true] at h ⊢
    rcases h with h | h
    · exact .inl h
    · refine .inr ?_
      rw [anyP_mk, List.any_eq_true] at h ⊢
      obtain ⟨x, hx, he⟩ := h
      refine ⟨x, ?_, he⟩
      rw [List.mem_map] at hx ⊢
      obtain ⟨p, hp, rfl⟩ := hx
      exact ⟨p, (List.take_subset_take_left _ hbc) hp, rfl⟩
  have hz : ∀ (j i : Nat), j ≤ i → anyP (pairs (zos (l.take j))) s = true → anyP (pairs (zos (l.take i))) s = true := by
    intro j i hji h
    obtain ⟨t, ht⟩ : ∃ t, l.take i = l.take j ++ t := ⟨(l.take i).drop j, by have h9 := (List.take_append_drop j (l.take i)).symm; rwa [List.take_take, Nat.min_eq_left hji] at h9⟩
    rw [ht]
    unfold zos at *
    rw [List.map_append, pairs_app, anyP_app, h]; rfl
  rcases h with ⟨h1, h2⟩ | ⟨rfl, h2⟩
  · have h3 := hmk a b _ h2 ht
    rw [pre_full l a (by omega)] at h3
    have h4 := hz (a + 1) i (by omega) h3
    unfold pre
    rw [anyP_app, h4]; rfl
  · exact hmk a b k h2 ht
end Go.Proofs.Ytbfficialcnedaa.Zn
