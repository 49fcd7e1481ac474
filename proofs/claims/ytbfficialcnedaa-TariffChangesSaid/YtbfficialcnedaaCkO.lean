/- Walk of the reference: Tariff. -/
import Derived.Test.YtbfficialcnedaaCkK
namespace Go.Proofs.Ytbfficialcnedaa.Ck
open Go Go.Lib Go.RowKit Go.Proofs.Ytbfficialcnedaa Go.Maps

theorem ref_ways (vn f1 f2 ze be re : Bool) : vn = false ∨ (vn = true ∧ f1 = true) ∨ (vn = true ∧ f1 = false ∧ f2 = true) ∨ (vn = true ∧ f1 = false ∧ f2 = false ∧ ze = false) ∨ (vn = true ∧ f1 = false ∧ f2 = false ∧ ze = true ∧ be = false) ∨ (vn = true ∧ f1 = false ∧ f2 = false ∧ ze = true ∧ be = true ∧ re = false) ∨ (vn = true ∧ f1 = false ∧ f2 = false ∧ ze = true ∧ be = true ∧ re = true) := by
  cases vn <;> cases f1 <;> cases f2 <;> cases ze <;> cases be <;> cases re <;> simp
end Go.Proofs.Ytbfficialcnedaa.Ck
