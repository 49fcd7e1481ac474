/- Walk of the reference: the prefixes of a zone that make a difference, in order. -/
import Derived.Test.YtflonakoagjmhaaZnSm
namespace Go.Proofs.Ytflonakoagjmhaa.Zn
open Go.RowKit Go.Lib Go.Shelf Go.Proofs.Ytflonakoagjmhaa Go.Maps

/-- The prefixes found so far, in order. -/
def SP (O K : List ByteArray) : Prop := O.Perm K ∧ O.Pairwise fun x y => ¬ lessS y x
theorem SP.insert {O K : List ByteArray} {p : ByteArray} {at' : Nat} (h : SP O K) (ha : at' ≤ O.length) (hhi : ∀ j, at' ≤ j → j < O.length → lessS p (O.getD j ⟨#[]⟩)) (hlo : at' = 0 ∨ ¬ lessS p (O.getD (at' - 1) ⟨#[]⟩)) : SP (O.take at' ++ [p] ++ O.drop at') (K ++ [p]) := by
  have hg : ∀ j, (hj : j < O.length) → O.getD j ⟨#[]⟩ = O[j] := fun j hj => by simp [List.getD_eq_getElem?_getD, List.getElem?_eq_getElem hj]
  have hpw := h.2
  rw [List.pairwise_iff_getElem] at hpw
  refine ⟨?_, ?_⟩
  · have h1 : (O.take at' ++ [p] ++ O.drop at').Perm (O.take at' ++ O.drop at' ++ [p]) := by
      rw [List.append_assoc, List.append_assoc]
      exact (List.perm_append_comm).append_left _
    rw [List.take_append_drop] at h1
    exact h1.trans (h.1.append_right _)
  · have hle : ∀ x ∈ O.take at', ¬ lessS p x := by
      intro x hx
      obtain ⟨j, hj, rfl⟩ := List.mem_iff_getElem.1 hx
      rw [List.length_take] at hj
      rcases hlo with h0 | h0
      · omega
      · rw [hg _ (by omega)] at h0
        rw [List.getElem_take]
        intro hlt
        rcases Nat.lt_or_ge j (at' - 1) with h2 | h2
        · have h3 := hpw j (at' - 1) (by omega) (by omega) h2
          rcases cmp_three O[j] (O[at' - 1]'(by omega)) with ⟨-, h4⟩ | ⟨-, h4⟩ | ⟨-, h4⟩
          · exact h0 (lessS_trans hlt h4)
          · rw [h4] at hlt; exact h0 hlt
          · exact h3 h4
        · have : j = at' - 1 := by omega
          subst this; exact h0 hlt
    have hgt : ∀ x ∈ O.drop at', lessS p x := by
      intro x hx
      obtain ⟨j, hj, rfl⟩ := List.mem_iff_getElem.1 hx
      rw [List.length_drop] at hj
      rw [List.getElem_drop]
      have := hhi (at' + j) (by omega) (by omega)
      rwa [hg _ (by omega)] at this
    have hT : (O.take at').Pairwise fun x y => ¬ lessS y x := h.2.sublist (List.take_sublist _ _)
    have hD : (O.drop at').Pairwise fun x y => ¬ lessS y x := h.2.sublist (List.drop_sublist _ _)
    rw [List.pairwise_append]
    refine ⟨?_, hD, ?_⟩
    · rw [List.pairwise_append]
      exact ⟨hT, List.pairwise_singleton _ _, fun x hx y hy => by rw [List.mem_singleton.1 hy]; exact hle x hx⟩
    · intro x hx y hy hyx
      rcases List.mem_append.1 hx with hx | hx
      · exact hle x hx (lessS_trans (hgt y hy) hyx)
      · rw [List.mem_singleton.1 hx] at hyx
        exact lessS_irrefl _ (lessS_trans (hgt y hy) hyx)
theorem SP.nil : SP [] [] := ⟨List.Perm.refl _, List.Pairwise.nil⟩
theorem kp_zero (f : Wd → Option Wd) (nm : Wd) (ps : List ByteArray) : kp f nm ps 0 = [] := rfl
/-- A list of texts of the call's own, and how it reads. -/
def PxOut (K : List ByteArray) (w : World) (e : Ending) (w' : World) : Prop :=
  ∃ (A : Option Addr) (c : Nat) (O : List ByteArray), e = .returned (.slice A O.length c) ∧ O.length ≤ c ∧ c ≤ maxLen ∧ TsR w' A O ∧ SP O K ∧ (∀ a, A = some a → w.heap.size ≤ a.block ∧ a.block < w'.heap.size) ∧ Below w.heap.size w w'
theorem has_str_own {w : World} {base g c : Nat} {ty : TypeId} {O : List ByteArray} {M : Nat} (h : w.ownsRow base ty 1 (.slice (some ⟨g, 0, none⟩) M c) M (O.map Value.string)) (hM : O.length = M) (o n d : Nat) (L : List ByteArray) (hL : L.length = n) (ho : ∀ j, j < n → o + j < M ∧ L.getD j ⟨#[]⟩ = O.getD (o + j) ⟨#[]⟩) :
    Has w (some ⟨g, o, none⟩) n d (L.map Value.string) := by
  refine ⟨by rw [List.length_map, hL], fun u hu => by obtain ⟨s, _, rfl⟩ := List.mem_map.1 hu; rfl, .inr ⟨_, rfl, fun j u hj => ?_⟩⟩
  have hjn : j < n := by
    have := (List.getElem?_eq_some_iff.1 hj).1
    rw [List.length_map, hL] at this; exact this
  obtain ⟨h1, h2⟩ := ho j hjn
  refine ⟨(World.ownsRow.lt h g rfl).2, ?_⟩
  rw [add_none, World.ownsRow.cellAt h (o + j) (by omega), ← hj, List.getElem?_map, List.getElem?_map, List.getElem?_eq_getElem (by omega), List.getElem?_eq_getElem (by omega)]
  have e1 : L.getD j ⟨#[]⟩ = L[j]'(by omega) := by simp [List.getD_eq_getElem?_getD, List.getElem?_eq_getElem (show j < L.length by omega)]
  have e2 : O.getD (o + j) ⟨#[]⟩ = O[o + j]'(by omega) := by simp [List.getD_eq_getElem?_getD, List.getElem?_eq_getElem (show o + j < O.length by omega)]
  rw [e1, e2] at h2
  rw [h2]
end Go.Proofs.Ytflonakoagjmhaa.Zn
