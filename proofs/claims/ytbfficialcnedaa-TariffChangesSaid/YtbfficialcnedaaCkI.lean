/- Walks of the reference: the rates and the discounts of a tariff; Tariff. -/
import Derived.Test.YtbfficialcnedaaCkH
import Derived.Test.YtbfficialcnedaaCkL1
namespace Go.Proofs.Ytbfficialcnedaa.Ck
open Go Go.Lib Go.RowKit Go.Proofs.Ytbfficialcnedaa Go.Maps

theorem sE0 (x : ByteArray) : (x.toList == []) = x.toList.isEmpty := by cases x.toList <;> rfl
theorem anyAll {α : Type} {l : List α} {p : α → Bool} {d : α} (h : ∀ j, j < l.length → p (l.getD j d) = false) : l.any p = false := by
  rw [List.any_eq_false]
  intro x hx
  obtain ⟨j, hj, rfl⟩ := List.mem_iff_getElem.1 hx
  have := h j hj
  simpa [List.getD, List.getElem?_eq_getElem hj] using this
theorem anyOne {α : Type} {l : List α} {p : α → Bool} {d : α} {k : Nat} (hk : k < l.length) (h : p (l.getD k d) = true) : l.any p = true := by
  rw [List.any_eq_true]
  exact ⟨l[k], List.getElem_mem _, by simpa [List.getD, List.getElem?_eq_getElem hk] using h⟩
end Go.Proofs.Ytbfficialcnedaa.Ck
