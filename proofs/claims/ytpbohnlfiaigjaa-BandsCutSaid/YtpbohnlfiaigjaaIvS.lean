/- Walks over lists of periods: few, Same, in, In, canonical. -/
import Derived.Test.YtpbohnlfiaigjaaIvV
import Derived.Lib.QuietBelow
import Derived.IntWalk
namespace Go.Proofs.Ytpbohnlfiaigjaa
open Go.RowKit

theorem take_step {l : List Pd} {k : Nat} (h : k < l.length) : l.take (k + 1) = l.take k ++ [l.getD k (0, 0)] := by
  rw [List.take_succ_eq_append_getElem h]; simp [List.getD, List.getElem?_eq_getElem h]
theorem mem_take_step {l : List Pd} {k : Nat} {t : Int} {a b : Int} (h : k < l.length) (ha : (l.getD k (0, 0)).1 = a) (hb : (l.getD k (0, 0)).2 = b) : mem (l.take (k + 1)) t = (mem (l.take k) t || ctn (a, b) t) := by
  rw [take_step h, mem_append, mem_cons, mem_nil, Bool.or_false, ← ha, ← hb]
theorem mem_has {l : List Pd} {k : Nat} {t : Int} (h : k < l.length) (hc : ctn (l.getD k (0, 0)) t = true) : mem l t = true :=
  mem_iff.2 ⟨l.getD k (0, 0), by simp [List.getD, List.getElem?_eq_getElem h], hc⟩
theorem refContains_is (a b t : Int) (v : Bool) (h : ctn (a, b) t = v) (w : World) : Calls Try.prog 26 #[.agg #[.int .i64 a, .int .i64 b], .int .i64 t] w fun e w' => e = .returned (.bool v) ∧ Below w.heap.size w w' := by
  subst h; exact refContains_any a b t w

theorem can_at {l : List Pd} (h : can l) {k : Nat} (hk : k < l.length) : vl (l.getD k (0, 0)) = true ∧ ∀ j, j < k → (l.getD j (0, 0)).2 < (l.getD k (0, 0)).1 := by
  refine ⟨h.1 _ (by simp [List.getD, List.getElem?_eq_getElem hk]), fun j hj => ?_⟩
  have := List.pairwise_iff_getElem.1 h.2 j k (by omega) hk hj
  simpa [List.getD, List.getElem?_eq_getElem hk, List.getElem?_eq_getElem (show j < l.length by omega)] using this
end Go.Proofs.Ytpbohnlfiaigjaa
