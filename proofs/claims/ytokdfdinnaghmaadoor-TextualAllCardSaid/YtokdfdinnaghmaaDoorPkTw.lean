/- The two lists that grow, of records and of rejects (as in XVaK, without the closure). -/
import Derived.Test.YtokdfdinnaghmaaDoorVaB
namespace Go.Proofs.YtokdfdinnaghmaaDoor.Va
open Go.RowKit

/-- The records that pass, and the rejects, of the first k. -/
def pasN (D : List Rc) (E : Nat → Int) (k : Nat) : List Rc := ((List.range k).filter fun i => decide (E i = 0)).map fun i => D.getD i rc0
def rejN (E : Nat → Int) (k : Nat) : List Rj := ((List.range k).filter fun i => !decide (E i = 0)).map fun (i : Nat) => ((0 : Int), (0 : Int), (i : Int), E i)
theorem pas_yes {D : List Rc} {E : Nat → Int} {k : Nat} (h : E k = 0) : pasN D E (k + 1) = pasN D E k ++ [D.getD k rc0] := by
  unfold pasN; rw [List.range_succ, List.filter_append, List.map_append]; simp [h]
theorem pas_no {D : List Rc} {E : Nat → Int} {k : Nat} (h : E k ≠ 0) : pasN D E (k + 1) = pasN D E k := by
  unfold pasN; rw [List.range_succ, List.filter_append, List.map_append]; simp [h]
theorem rej_yes {E : Nat → Int} {k : Nat} (h : E k = 0) : rejN E (k + 1) = rejN E k := by
  unfold rejN; rw [List.range_succ, List.filter_append, List.map_append]; simp [h]
theorem rej_no {E : Nat → Int} {k : Nat} (h : E k ≠ 0) : rejN E (k + 1) = rejN E k ++ [(0, 0, (k : Int), E k)] := by
  unfold rejN; rw [List.range_succ, List.filter_append, List.map_append]; simp [h]
theorem pas_len {D : List Rc} {E : Nat → Int} {k : Nat} : (pasN D E k).length ≤ k := by
  unfold pasN; rw [List.length_map]; exact Nat.le_trans (List.length_filter_le _ _) (by simp)
theorem rej_len {E : Nat → Int} {k : Nat} : (rejN E k).length ≤ k := by
  unfold rejN; rw [List.length_map]; exact Nat.le_trans (List.length_filter_le _ _) (by simp)
/-- The two lists that are built, beside the closure's state. -/
structure Two (w : World) (F0 : Nat → Prop) (D : List Rc) (E : Nat → Int) (k : Nat) (v u : Value) (F : Nat → Prop) (wr : World) : Prop where
  ov : wr.ownsRow w.heap.size 23 12 v (pasN D E k).length (recl (pasN D E k))
  ou : wr.ownsRow w.heap.size 43 4 u (rejN E k).length (jcl (rejN E k))
  vu : ∀ g, v.ownBlock = some g → u.ownBlock ≠ some g
  vF : ∀ g, v.ownBlock = some g → ¬ F g
  uF : ∀ g, u.ownBlock = some g → ¬ F g
  old : ∀ b, F b → F0 b ∨ w.heap.size ≤ b
  lt : ∀ b, F b → b < wr.heap.size
  ch : Chg F0 w wr
section
variable {w wr w1 : World} {F0 F F1 : Nat → Prop} {D : List Rc} {E : Nat → Int} {k : Nat} {v u v' u' : Value}
theorem Two.chg (h : Two w F0 D E k v u F wr) (hc : Chg F wr w1) (hF : ∀ b, F1 b → F b ∨ wr.heap.size ≤ b) (hl : ∀ b, F1 b → b < w1.heap.size) : Two w F0 D E k v u F1 w1 where
  ov := own_chg h.ov hc h.vF
  ou := own_chg h.ou hc h.uF
  vu := h.vu
  vF := fun g hg hF1 => by
    rcases hF g hF1 with h1 | h1
    · exact h.vF g hg h1
    · have := (World.ownsRow.lt h.ov g hg).2; omega
  uF := fun g hg hF1 => by
    rcases hF g hF1 with h1 | h1
    · exact h.uF g hg h1
    · have := (World.ownsRow.lt h.ou g hg).2; omega
  old := fun b hb => by
    rcases hF b hb with h1 | h1
    · exact h.old b h1
    · exact .inr (Nat.le_trans h.ch.size h1)
  lt := hl
  ch := h.ch.trans hc (fun q hq hFq => by
    rcases h.old q hFq with h1 | h1
    · exact h1
    · omega)
theorem Two.alloc (h : Two w F0 D E k v u F wr) (o : Obj) : Two w F0 D E k v u F (wr.alloc o) where
  ov := h.ov.alloc o
  ou := h.ou.alloc o
  vu := h.vu
  vF := h.vF
  uF := h.uF
  old := h.old
  lt := fun b hb => by have := h.lt b hb; simp; omega
  ch := h.ch.alloc o
theorem Two.appV (h : Two w F0 D E k v u F wr) (he : E k = 0) (g1 : w1.ownsRow w.heap.size 23 12 v' ((pasN D E k).length + 1) (recl (pasN D E k) ++ recl [D.getD k rc0])) (g2 : wr.grownBy w1 v.ownBlock) (g3 : v'.ownBlock = v.ownBlock ∨ v'.ownBlock = some wr.heap.size) : Two w F0 D E (k + 1) v' u F w1 where
  ov := by rw [pas_yes he, recl_app, List.length_append]; exact g1
  ou := by
    rw [rej_yes he]
    exact h.ou.kept g2 (by
      cases hu : u.ownBlock with
      | none => exact .inl rfl
      | some g => exact .inr (fun e => h.vu g e.symm hu))
  vu := fun g hg hu => by
    rcases g3 with g3 | g3
    · exact h.vu g (g3 ▸ hg) hu
    · rw [g3] at hg; injection hg with hg; have := (World.ownsRow.lt h.ou g hu).2; omega
  vF := fun g hg hF1 => by
    rcases g3 with g3 | g3
    · exact h.vF g (g3 ▸ hg) hF1
    · rw [g3] at hg; injection hg with hg; have := h.lt g hF1; omega
  uF := h.uF
  old := h.old
  lt := fun b hb => Nat.lt_of_lt_of_le (h.lt b hb) g2.size
  ch := h.ch.grown g2 (fun q hq => (World.ownsRow.lt h.ov q hq).1)
theorem Two.appU (h : Two w F0 D E k v u F wr) (he : E k ≠ 0) (g1 : w1.ownsRow w.heap.size 43 4 u' ((rejN E k).length + 1) (jcl (rejN E k) ++ jcl [(0, 0, (k : Int), E k)])) (g2 : wr.grownBy w1 u.ownBlock) (g3 : u'.ownBlock = u.ownBlock ∨ u'.ownBlock = some wr.heap.size) : Two w F0 D E (k + 1) v u' F w1 where
  ou := by rw [rej_no he, jcl_app, List.length_append]; exact g1
  ov := by
    rw [pas_no he]
    exact h.ov.kept g2 (by
      cases hv : v.ownBlock with
      | none => exact .inl rfl
      | some g => exact .inr (fun e => h.vu g hv e.symm))
  vu := fun g hg hu => by
    rcases g3 with g3 | g3
    · exact h.vu g hg (g3 ▸ hu)
    · rw [g3] at hu; injection hu with hu; have := (World.ownsRow.lt h.ov g hg).2; omega
  uF := fun g hg hF1 => by
    rcases g3 with g3 | g3
    · exact h.uF g (g3 ▸ hg) hF1
    · rw [g3] at hg; injection hg with hg; have := h.lt g hF1; omega
  vF := h.vF
  old := h.old
  lt := fun b hb => Nat.lt_of_lt_of_le (h.lt b hb) g2.size
  ch := h.ch.grown g2 (fun q hq => (World.ownsRow.lt h.ou q hq).1)
end
theorem Blk.srcR {w : World} {g : Nat} {t : TypeId} {r : Rc} (h : Blk w g t r.cells) : ∀ j v, (recl [r])[j]? = some v → w.cell? ((⟨g, 0, none⟩ : Addr).add j) = some v := fun j v hj => by
  rw [add_none, Nat.zero_add, h.cell j, ← hj]
  show r.cells[j]? = (r.cells.toList ++ [])[j]?
  simp
theorem Blk.srcJ {w : World} {g : Nat} {t : TypeId} {r : Rj} (h : Blk w g t #[.int .i64 r.1, .int .i64 r.2.1, .int .i64 r.2.2.1, .int .i64 r.2.2.2]) : ∀ j v, (jcl [r])[j]? = some v → w.cell? ((⟨g, 0, none⟩ : Addr).add j) = some v := fun j v hj => by
  rw [add_none, Nat.zero_add, h.cell j, ← hj]
  show (#[Value.int .i64 r.1, .int .i64 r.2.1, .int .i64 r.2.2.1, .int .i64 r.2.2.2] : Array Value)[j]? = [Value.int .i64 r.1, .int .i64 r.2.1, .int .i64 r.2.2.1, .int .i64 r.2.2.2][j]?
  simp
end Go.Proofs.YtokdfdinnaghmaaDoor.Va
