/- Plain facts on adding ones at positions. -/
import Derived.Test.YtopngdjhnljmfaaDoorAmtOnes
namespace Go.Proofs.YtopngdjhnljmfaaDoor
open Go.RowKit Go.Sort

/-- One added at each of the positions. -/
def addL (ps : List Int) (σ : List Nat) : List Int := σ.foldl (fun q i => q.set i (q[i]?.getD 0 + 1)) ps
theorem addL_length (σ : List Nat) : ∀ ps : List Int, (addL ps σ).length = ps.length := by
  induction σ with
  | nil => intro ps; rfl
  | cons i σ ih => intro ps; show (addL (ps.set i _) σ).length = _; rw [ih]; simp
theorem addL_snoc (ps : List Int) (σ : List Nat) (i : Nat) : addL ps (σ ++ [i]) = (addL ps σ).set i ((addL ps σ)[i]?.getD 0 + 1) := by
  simp [addL, List.foldl_append]
theorem addL_bounds (lo hi : Int) (σ : List Nat) : ∀ ps : List Int, (∀ x ∈ ps, lo ≤ x ∧ x ≤ hi) → lo ≤ 0 → 0 ≤ hi → ∀ x ∈ addL ps σ, lo ≤ x ∧ x ≤ hi + σ.length := by
  induction σ generalizing hi with
  | nil => intro ps h _ _ x hx; have := h x hx; simp; exact this
  | cons i σ ih =>
    intro ps h h0 h1 x hx
    have h2 : ∀ y ∈ ps.set i (ps[i]?.getD 0 + 1), lo ≤ y ∧ y ≤ hi + 1 := by
      intro y hy
      rcases List.mem_or_eq_of_mem_set hy with hy | rfl
      · have := h y hy; omega
      · rcases Nat.lt_or_ge i ps.length with hi' | hi'
        · rw [List.getElem?_eq_getElem hi']
          have := h _ (List.getElem_mem hi')
          simp only [Option.getD_some]; omega
        · rw [List.getElem?_eq_none hi']
          simp only [Option.getD_none]; omega
    have := ih (hi + 1) (ps.set i (ps[i]?.getD 0 + 1)) h2 h0 (by omega) x hx
    simp only [List.length_cons]
    omega
/-- The positions, in the order of their rests. -/
def sig (k : Nat) (zs : List Int) : List Nat := (posF k zs).toList.map (·.val)
theorem posF_size (k : Nat) (zs : List Int) : (posF k zs).size = k + 1 := by
  have : ∀ (lt : Fin (k + 1) → Fin (k + 1) → Bool) (a b i : Nat) (d : Array (Fin (k + 1))), (insOuter lt a b i d).size = d.size := by
    intro lt a b i d
    have inner : ∀ j (d : Array (Fin (k + 1))), (insInner lt a j d).size = d.size := by
      intro j
      induction j with
      | zero => intro d; rfl
      | succ j ih =>
        intro d
        simp only [insInner]
        split
        · rw [ih]; simp [swp]
        · rfl
    induction h : b - i generalizing i d with
    | zero =>
      rw [insOuter]
      rw [if_neg (by omega)]
    | succ n ih =>
      rw [insOuter]
      rw [if_pos (by omega), ih _ _ (by omega), inner]
  unfold posF Sort.insertionSort
  rw [this, idF_size]
theorem sig_length (k : Nat) (zs : List Int) : (sig k zs).length = k + 1 := by
  unfold sig
  rw [List.length_map, Array.length_toList, posF_size]
theorem sig_at (k : Nat) (zs : List Int) (i : Nat) (h : i < k + 1) : (sig k zs)[i]?.getD 0 = ((posF k zs)[i]!).val ∧ ((posF k zs)[i]!).val < k + 1 := by
  refine ⟨?_, ((posF k zs)[i]!).isLt⟩
  have hs := posF_size k zs
  unfold sig
  rw [List.getElem?_map, Array.getElem?_toList, Array.getElem?_eq_getElem (by omega), getElem!_pos _ i (by omega)]
  rfl
end Go.Proofs.YtopngdjhnljmfaaDoor
