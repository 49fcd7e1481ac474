/- The ranges that have been seen, as Filter goes through the records. -/
import Derived.Test.YtgobbeommjjlfaaDdA
import Derived.Test.YtgobbeommjjlfaaVaD
namespace Go.Proofs.Ytgobbeommjjlfaa
open Go.RowKit

theorem adL_len {s x : Int} {l : List Rg} (hl : Can l) (hh : hasL l s x = false) : (adL s x l).length ≤ l.length + 1 := by
  rw [← ins_adL hl hh]
  have h1 : iA s x l ≤ plc s x l := by unfold iA; split <;> omega
  have h2 : plc s x l ≤ iB s x l := by unfold iB; split <;> omega
  simp only [List.length_append, List.length_take, List.length_cons, List.length_drop]
  omega
/-- The ranges seen after the first k records. -/
def nowL (l : List Rg) (D : List Rc) : Nat → List Rg
  | 0 => l
  | k + 1 => if rfs (nowL l D k) (D.getD k Va.rc0).s0 (D.getD k Va.rc0).s1 = 0 then adL (D.getD k Va.rc0).s0 (D.getD k Va.rc0).s1 (nowL l D k) else nowL l D k
/-- The error of record k. -/
def fltE (l : List Rg) (D : List Rc) (k : Nat) : Int := rfs (nowL l D k) (D.getD k Va.rc0).s0 (D.getD k Va.rc0).s1
theorem nowL_yes {l : List Rg} {D : List Rc} {k : Nat} (h : fltE l D k = 0) : nowL l D (k + 1) = adL (D.getD k Va.rc0).s0 (D.getD k Va.rc0).s1 (nowL l D k) := by
  unfold fltE at h
  show (if _ then _ else _) = _
  rw [if_pos h]
theorem nowL_no {l : List Rg} {D : List Rc} {k : Nat} (h : fltE l D k ≠ 0) : nowL l D (k + 1) = nowL l D k := by
  unfold fltE at h
  show (if _ then _ else _) = _
  rw [if_neg h]
theorem nowL_can {l : List Rg} {D : List Rc} (hl : Can l) : ∀ k, Can (nowL l D k) ∧ (nowL l D k).length ≤ l.length + k
  | 0 => ⟨hl, Nat.le_refl _⟩
  | k + 1 => by
    obtain ⟨h1, h2⟩ := nowL_can (D := D) hl k
    by_cases h : fltE l D k = 0
    · obtain ⟨h3, h4⟩ := rfs_zero.1 h
      rw [nowL_yes h]
      have := adL_len h1 h4
      exact ⟨adL_can h3 h1 h4, by omega⟩
    · rw [nowL_no h]
      exact ⟨h1, by omega⟩
end Go.Proofs.Ytgobbeommjjlfaa
