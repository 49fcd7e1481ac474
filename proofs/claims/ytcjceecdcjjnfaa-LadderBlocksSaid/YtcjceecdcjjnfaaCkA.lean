/- Walks: Sort, and the reference's Has and attribute. -/
import Derived.Test.YtcjceecdcjjnfaaCkB
import Derived.Deep.Cut
namespace Go.Proofs.Ytcjceecdcjjnfaa.Ck
open Go Go.Lib Go.RowKit Go.Proofs.Ytcjceecdcjjnfaa Go.Maps

theorem ret_i {a b : Int} (h : a = b) : Ending.returned (.int .i64 a) = .returned (.int .i64 b) := by rw [h]
theorem ret_b {a b : Bool} (h : a = b) : Ending.returned (.bool a) = .returned (.bool b) := by rw [h]
def sS0 : ByteArray := ⟨#[]⟩
/-- A list of texts in memory. -/
def SsR (w : World) (A : Option Addr) (l : List ByteArray) : Prop := ∀ k, k < l.length → ∃ b, A = some ⟨b, 0, none⟩ ∧ w.cell? ⟨b, k, none⟩ = some (.string (l.getD k sS0))
theorem SsR.below {w w' : World} {b : Nat} {l : List ByteArray} (h : SsR w (some ⟨b, 0, none⟩) l) (hb : Below w.heap.size w w') (hl : b < w.heap.size) : SsR w' (some ⟨b, 0, none⟩) l := fun k hk => by
  obtain ⟨b', e, h1⟩ := h k hk
  injection e with e; injection e with e
  subst e
  exact ⟨b, rfl, (hb.cell (p := ⟨b, k, none⟩) hl).trans h1⟩
theorem SsR.drew {w : World} {A : Option Addr} {l : List ByteArray} (h : SsR w A l) (n : Nat) : SsR (w.drewN n) A l := h
theorem SsR.lit (w : World) (l : List ByteArray) (t : TypeId) : SsR (w.alloc (.cells (l.map Value.string).toArray t)) (some ⟨w.heap.size, 0, none⟩) l := fun k hk => by
  refine ⟨_, rfl, ?_⟩
  have h := heap_alloc_new w (.cells (l.map Value.string).toArray t)
  simp only [World.cell?, h]
  simp [hk]
theorem SsR.lit2 (w : World) (o : Obj) (l : List ByteArray) (t : TypeId) : SsR ((w.alloc o).alloc (.cells (l.map Value.string).toArray t)) (some ⟨w.heap.size + 1, 0, none⟩) l := by
  have h := SsR.lit (w.alloc o) l t
  rw [show (w.alloc o).heap.size = w.heap.size + 1 by simp] at h
  exact h
theorem isIn_yes {l : List ByteArray} {s : ByteArray} {k : Nat} (h : k < l.length) (hq : ((l.getD k sS0).toList == s.toList) = true) : isIn l s = true := by
  unfold isIn; rw [List.any_eq_true]
  refine ⟨l[k], List.getElem_mem _, ?_⟩
  rwa [List.getD_eq_getElem?_getD, List.getElem?_eq_getElem h] at hq
theorem isIn_no {l : List ByteArray} {s : ByteArray} (h : ∀ k, k < l.length → ((l.getD k sS0).toList == s.toList) = false) : isIn l s = false := by
  unfold isIn; rw [List.any_eq_false]
  intro x hx
  obtain ⟨k, hk, rfl⟩ := List.mem_iff_getElem.1 hx
  have := h k hk
  rw [List.getD_eq_getElem?_getD, List.getElem?_eq_getElem hk] at this
  rw [show (l[k].toList == s.toList) = false from this]; decide
theorem below_one (w : World) (o : Obj) : Below w.heap.size w (w.alloc o) := (Below.refl _ w).alloc (Nat.le_refl _) _
theorem lits (d : Array UInt8) : (⟨d⟩ : ByteArray).toList = d.toList := ByteArray.toList_eq _
theorem beq_sym (a b : List UInt8) : (a == b) = (b == a) := Bool.eq_iff_iff.2 ⟨fun h => by rw [beq_iff_eq] at h ⊢; exact h.symm, fun h => by rw [beq_iff_eq] at h ⊢; exact h.symm⟩
theorem isIn_nums (s : ByteArray) : isIn nums s = ((s.toList == [107, 105, 110, 100]) || (s.toList == [117, 110, 105, 116, 115]) || (s.toList == [119, 101, 101, 107, 100, 97, 121]) || (s.toList == [109, 105, 110, 117, 116, 101]) || (s.toList == [116, 111, 116, 97, 108]) || (s.toList == [115, 112, 101, 110, 116])) := by
  unfold isIn nums
  simp only [List.any_cons, List.any_nil, lits, Bool.or_false]
  simp only [beq_sym _ s.toList, Bool.or_assoc]
theorem isIn_txts (s : ByteArray) : isIn txts s = ((s.toList == [122, 111, 110, 101]) || (s.toList == [98, 97, 110, 100])) := by
  unfold isIn txts
  simp only [List.any_cons, List.any_nil, lits, Bool.or_false]
  simp only [beq_sym _ s.toList]
end Go.Proofs.Ytcjceecdcjjnfaa.Ck
