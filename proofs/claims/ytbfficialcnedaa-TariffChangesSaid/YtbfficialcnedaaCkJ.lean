/- Walks of the reference: the rates and the discounts of a tariff; Tariff. -/
import Derived.Test.YtbfficialcnedaaCkI
namespace Go.Proofs.Ytbfficialcnedaa.Ck
open Go Go.Lib Go.RowKit Go.Proofs.Ytbfficialcnedaa Go.Maps

theorem rate_ways (k1 k2 vz vb s1 s2 : Bool) : k1 = true ∨ (k1 = false ∧ k2 = true) ∨ (k1 = false ∧ k2 = false ∧ vz = false) ∨ (k1 = false ∧ k2 = false ∧ vz = true ∧ vb = false) ∨ (k1 = false ∧ k2 = false ∧ vz = true ∧ vb = true ∧ s1 = true) ∨ (k1 = false ∧ k2 = false ∧ vz = true ∧ vb = true ∧ s1 = false ∧ s2 = true) ∨ (k1 = false ∧ k2 = false ∧ vz = true ∧ vb = true ∧ s1 = false ∧ s2 = false) := by
  cases k1 <;> cases k2 <;> cases vz <;> cases vb <;> cases s1 <;> cases s2 <;> simp
theorem inB_not {n a b : Int} {x y : Bool} (h1 : decide (n < a) = x) (h2 : decide (b < n) = y) : inB n a b = (!x && !y) := by
  unfold inB
  rw [← h1, ← h2, Bool.eq_iff_iff]
  simp only [Bool.and_eq_true, decide_eq_true_eq, Bool.not_eq_true', decide_eq_false_iff_not]
  omega
end Go.Proofs.Ytbfficialcnedaa.Ck
