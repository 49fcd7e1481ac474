/- Walks: the closures of product.At, Names and Fees. -/
import Derived.Test.YthjckkcafhiomaaPdV
namespace Go.Proofs.Ythjckkcafhiomaa.Pd
open Go.RowKit

def qA (nm : ByteArray) (t : Int) (p : Pr) : Bool := decide (p.nm = nm) && decide (p.fr ≤ t)
def qN (t : Int) (p : Pr) : Bool := decide (p.fr ≤ t)
def qF (nm : ByteArray) (p : Pr) : Bool := decide (p.nm = nm)
theorem below_one (w : World) (o : Obj) : Below w.heap.size w (w.alloc o) := (Below.refl _ w).alloc (Nat.le_refl _) _
theorem at1_any (p : Pr) (nm : ByteArray) (t : Int) (g1 g2 : Nat) (w : World) (h1 : Blk w g1 9 #[.string nm]) (h2 : Blk w g2 3 #[.int .i64 t]) :
    Calls Try.prog 27 #[.agg p.cells, .pointer (some ⟨g1, 0, none⟩), .pointer (some ⟨g2, 0, none⟩)] w fun e w' => e = .returned (.bool (qA nm t p)) ∧ Below w.heap.size w w' := by
  obtain ⟨pn, fr, fe, ca, pr, A, n, c, bs⟩ := p
  obtain ⟨v, hv⟩ : ∃ v, decide (pn = nm) = v := ⟨_, rfl⟩
  obtain ⟨u, hu⟩ : ∃ u, decide (fr ≤ t) = u := ⟨_, rfl⟩
  have hq := sEq_is hv
  have HR : Hid (qA nm t ⟨pn, fr, fe, ca, pr, A, n, c, bs⟩ = (v && u)) := Lib.hid (by unfold qA; simp only [hv, hu])
  have HB := Lib.hid (below_one w (.cells #[.string pn, .int .i64 fr, .int .i64 fe, .string ca, .bool pr, .slice A n c] 29))
  have c1 := (h1.alloc (.cells #[.string pn, .int .i64 fr, .int .i64 fe, .string ca, .bool pr, .slice A n c] 29)).one
  have c2 := (h2.alloc (.cells #[.string pn, .int .i64 fr, .int .i64 fe, .string ca, .bool pr, .slice A n c] 29)).one
  unfold Pr.cells
  simp only
  clear h1 h2 hv
  cases v
  · go_enter Try.func27, Try.ntmps27
    go_wp2
    go_ret
    exact ⟨ret_bool HR.out.symm, HB.out⟩
  · cases u
    all_goals
      go_enter Try.func27, Try.ntmps27
      go_wp2
      go_ret
      exact ⟨ret_bool HR.out.symm, HB.out⟩
theorem names1_any (p : Pr) (t : Int) (g2 : Nat) (w : World) (h2 : Blk w g2 3 #[.int .i64 t]) :
    Calls Try.prog 29 #[.agg p.cells, .pointer (some ⟨g2, 0, none⟩)] w fun e w' => e = .returned (.bool (qN t p)) ∧ Below w.heap.size w w' := by
  obtain ⟨pn, fr, fe, ca, pr, A, n, c, bs⟩ := p
  have HB := Lib.hid (below_one w (.cells #[.string pn, .int .i64 fr, .int .i64 fe, .string ca, .bool pr, .slice A n c] 29))
  have c2 := (h2.alloc (.cells #[.string pn, .int .i64 fr, .int .i64 fe, .string ca, .bool pr, .slice A n c] 29)).one
  unfold Pr.cells qN
  simp only
  clear h2
  go_enter Try.func29, Try.ntmps29
  go_wp2
  go_ret
  exact ⟨rfl, HB.out⟩
theorem fees1_any (p : Pr) (nm : ByteArray) (g1 : Nat) (w : World) (h1 : Blk w g1 9 #[.string nm]) :
    Calls Try.prog 32 #[.agg p.cells, .pointer (some ⟨g1, 0, none⟩)] w fun e w' => e = .returned (.bool (qF nm p)) ∧ Below w.heap.size w w' := by
  obtain ⟨pn, fr, fe, ca, pr, A, n, c, bs⟩ := p
  obtain ⟨v, hv⟩ : ∃ v, decide (pn = nm) = v := ⟨_, rfl⟩
  have hq := sEq_is hv
  have HR : Hid (qF nm ⟨pn, fr, fe, ca, pr, A, n, c, bs⟩ = v) := Lib.hid (by unfold qF; simp only [hv])
  have HB := Lib.hid (below_one w (.cells #[.string pn, .int .i64 fr, .int .i64 fe, .string ca, .bool pr, .slice A n c] 29))
  have c1 := (h1.alloc (.cells #[.string pn, .int .i64 fr, .int .i64 fe, .string ca, .bool pr, .slice A n c] 29)).one
  unfold Pr.cells
  simp only
  clear h1 hv
  go_enter Try.func32, Try.ntmps32
  go_wp2
  go_ret
  exact ⟨ret_bool HR.out.symm, HB.out⟩
/-- The elements that are kept, of the first k. -/
def kp (q : Pr → Bool) (l : List Pr) (k : Nat) : List Pr := (l.take k).filter q
theorem kp_zero (q : Pr → Bool) (l : List Pr) : kp q l 0 = [] := rfl
theorem kp_all (q : Pr → Bool) (l : List Pr) : kp q l l.length = l.filter q := by unfold kp; rw [List.take_length]
theorem kp_len (q : Pr → Bool) (l : List Pr) (k : Nat) : (kp q l k).length ≤ k := Nat.le_trans (List.length_filter_le _ _) (by simp; omega)
theorem take_next {l : List Pr} {k : Nat} (h : k < l.length) : l.take (k + 1) = l.take k ++ [l.getD k pr0] := by
  rw [List.take_add_one, List.getElem?_eq_getElem h]; simp [List.getD, List.getElem?_eq_getElem h]
theorem kp_yes {q : Pr → Bool} {l : List Pr} {k : Nat} (h : k < l.length) (hq : q (l.getD k pr0) = true) : kp q l (k + 1) = kp q l k ++ [l.getD k pr0] := by
  unfold kp; rw [take_next h, List.filter_append]; rw [List.filter_cons, hq]; rfl
theorem kp_no {q : Pr → Bool} {l : List Pr} {k : Nat} (h : k < l.length) (hq : q (l.getD k pr0) = false) : kp q l (k + 1) = kp q l k := by
  unfold kp; rw [take_next h, List.filter_append]; rw [List.filter_cons, hq]; exact List.append_nil _
/-- A row of the call's own that reads as these products. -/
def RowOut (l : List Pr) (w : World) (e : Ending) (w' : World) : Prop :=
  ∃ v', e = .returned v' ∧ w'.ownsRow w.heap.size 29 6 v' l.length (psl l) ∧ Below w.heap.size w w'
theorem blk_src {w : World} {g : Nat} {t : TypeId} {p : Pr} (h : Blk w g t p.cells) : ∀ j v, (psl [p])[j]? = some v → w.cell? ((⟨g, 0, none⟩ : Addr).add j) = some v := fun j v hj => by
  rw [add_none, Nat.zero_add, h.cell j, ← hj]
  show p.cells[j]? = (p.cells.toList ++ [])[j]?
  simp
end Go.Proofs.Ythjckkcafhiomaa.Pd
