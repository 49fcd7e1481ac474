/- Walks of the reference: the error of a zone, the error of a list. -/
import Derived.Test.YtbfficialcnedaaZnRe
import Derived.Test.YtbfficialcnedaaZnNr
namespace Go.Proofs.Ytbfficialcnedaa.Zn
open Go.RowKit Go.Proofs.Ytbfficialcnedaa Go.Maps

theorem any_snoc {l : List Zm} {k : Nat} {y : Wd} (h : k < l.length) : ((zos (l.take (k + 1))).any fun e => e.nm == y) = (((zos (l.take k)).any fun e => e.nm == y) || ((l.getD k zm0).nm.data.toList == y)) := by
  rw [zos_take h rfl, List.any_append]; simp [Zm.zo]
theorem any_more {l : List Zm} {i k : Nat} {y : Wd} (hk : k < i) (h : k < l.length) (he : ((l.getD k zm0).nm.data.toList == y) = true) : ((zos (l.take i)).any fun e => e.nm == y) = true := by
  rw [zos_any, List.any_eq_true]
  refine ⟨l.getD k zm0, ?_, he⟩
  rw [List.mem_take_iff_getElem]
  exact ⟨k, by omega, by simp [List.getD, List.getElem?_eq_getElem h]⟩
theorem drop_ps {ps : List ByteArray} {k : Nat} (h : k < ps.length) : (ps.drop k).map (fun p => p.data.toList) = (ps.getD k ⟨#[]⟩).data.toList :: (ps.drop (k + 1)).map (fun p => p.data.toList) := by
  rw [List.drop_eq_getElem_cons h, List.map_cons, List.getD_eq_getElem?_getD, List.getElem?_eq_getElem h]; rfl
end Go.Proofs.Ytbfficialcnedaa.Zn
