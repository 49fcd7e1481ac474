/- Walks of the reference: the discounts of a tariff; Tariff. -/
import Derived.Test.YtbfficialcnedaaCkJ
namespace Go.Proofs.Ytbfficialcnedaa.Ck
open Go Go.Lib Go.RowKit Go.Proofs.Ytbfficialcnedaa Go.Maps

theorem disc_ways (e0 s3 p1 p2 : Bool) : e0 = true ∨ (e0 = false ∧ s3 = true) ∨ (e0 = false ∧ s3 = false ∧ p1 = true) ∨ (e0 = false ∧ s3 = false ∧ p1 = false ∧ p2 = true) ∨ (e0 = false ∧ s3 = false ∧ p1 = false ∧ p2 = false) := by
  cases e0 <;> cases s3 <;> cases p1 <;> cases p2 <;> simp
end Go.Proofs.Ytbfficialcnedaa.Ck
