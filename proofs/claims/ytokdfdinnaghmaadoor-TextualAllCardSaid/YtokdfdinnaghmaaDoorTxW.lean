/- The reader and the record that it fills. -/
import Derived.Test.YtokdfdinnaghmaaDoorTxK
import Derived.Test.YtokdfdinnaghmaaDoorTxSp
import Derived.Test.YtokdfdinnaghmaaDoorRcS
namespace Go.Proofs.YtokdfdinnaghmaaDoor.Tx
open Go Go.Lib Go.RowKit

theorem new_at (w : World) (o : Obj) : (w.alloc o).heap[w.heap.size]? = some o := by
  simp only [World.alloc, Array.getElem?_push_size]
theorem TxA.keep {w w' : World} {g g' : Nat} {s : RS} (h : TxA w g s) (hg : w.grownBy w' (some g')) (h1 : g < g') : TxA w' g s := by
  obtain ⟨p, n, c, l, h, e⟩ := h
  exact ⟨p, n, c, l, h.keep hg h1, e⟩
theorem _root_.Go.Proofs.YtokdfdinnaghmaaDoor.RcB.fr {W : World} {g : Nat} {r : Rc} (h : RcB W g r) : ∀ i, W.frozen? ⟨g, i, none⟩ = false := by
  intro i
  unfold RcB at h
  simp [World.frozen?, h]
theorem _root_.Go.Proofs.YtokdfdinnaghmaaDoor.RcB.lt {W : World} {g : Nat} {r : Rc} (h : RcB W g r) : g < W.heap.size := (Array.getElem?_eq_some_iff.1 h).1
theorem _root_.Go.Proofs.YtokdfdinnaghmaaDoor.RcB.grown {w w' : World} {q g : Nat} {r : Rc} (h : RcB w q r) (k : w.grownBy w' (some g)) (hne : q ≠ g) : RcB w' q r := by
  have hl := RcB.lt h
  unfold RcB at *
  rw [k.block q hl (fun e => hne (Option.some.inj e))]; exact h
def rcZ : Rc := ⟨0, 0, 0, ⟨#[]⟩, ⟨#[]⟩, 0, 0, 0, 0, false, 0, false⟩
/-- The state of read: the reader in block g, the record behind it, the result in block B. -/
structure RdI (w0 : World) (B g : Nat) (s : RS) (r : Rc) (W : World) : Prop where
  rd : TxA W g s
  rc : RcB W (g + 1) r
  rz : RcB W B rcZ
  bel : Below B w0 W
  lt : B < g
section
variable {w0 W W' : World} {B g : Nat} {s s' : RS} {r r' : Rc}
theorem RdI.size (h : RdI w0 B g s r W) : g + 1 < W.heap.size := RcB.lt h.rc
theorem RdI.call (h : RdI w0 B g s r W) (k : RdOut W W' g s') : RdI w0 B g s' r W' where
  rd := k.1
  rc := RcB.grown h.rc k.2 (by omega)
  rz := RcB.grown h.rz k.2 (by have := h.lt; omega)
  bel := below_grownT h.bel k.2 (fun i e => by have := h.lt; have := Option.some.inj e; omega) (by have := h.lt; have := h.size; omega)
  lt := h.lt
theorem RdI.stor (h : RdI w0 B g s r W) (k : Nat) (v : Value) (hr : RcB (W.setCell ⟨g + 1, k, none⟩ v) (g + 1) r') : RdI w0 B g s r' (W.setCell ⟨g + 1, k, none⟩ v) where
  rd := h.rd.keep (gr_set _ _ _ _) (by omega)
  rc := hr
  rz := RcB.grown h.rz (gr_set _ _ _ _) (by have := h.lt; omega)
  bel := below_grownT h.bel (gr_set _ _ _ _) (fun i e => by have := h.lt; have := Option.some.inj e; omega) (by have := h.lt; have := h.size; omega)
  lt := h.lt
end
theorem _root_.Go.Proofs.YtokdfdinnaghmaaDoor.RcB.set0 {W : World} {g : Nat} {r : Rc} (h : RcB W g r) (x : Int) : RcB (W.setCell ⟨g, 0, none⟩ (.int .i64 x)) g { r with s0 := x } := by
  unfold RcB Rc.cells at *
  simp [World.setCell, Array.getElem?_modify, h]
theorem _root_.Go.Proofs.YtokdfdinnaghmaaDoor.RcB.set1 {W : World} {g : Nat} {r : Rc} (h : RcB W g r) (x : Int) : RcB (W.setCell ⟨g, 1, none⟩ (.int .i64 x)) g { r with s1 := x } := by
  unfold RcB Rc.cells at *
  simp [World.setCell, Array.getElem?_modify, h]
theorem _root_.Go.Proofs.YtokdfdinnaghmaaDoor.RcB.set2 {W : World} {g : Nat} {r : Rc} (h : RcB W g r) (x : Int) : RcB (W.setCell ⟨g, 2, none⟩ (.int .i64 x)) g { r with s2 := x } := by
  unfold RcB Rc.cells at *
  simp [World.setCell, Array.getElem?_modify, h]
theorem _root_.Go.Proofs.YtokdfdinnaghmaaDoor.RcB.set3 {W : World} {g : Nat} {r : Rc} (h : RcB W g r) (x : ByteArray) : RcB (W.setCell ⟨g, 3, none⟩ (.string x)) g { r with sa := x } := by
  unfold RcB Rc.cells at *
  simp [World.setCell, Array.getElem?_modify, h]
theorem _root_.Go.Proofs.YtokdfdinnaghmaaDoor.RcB.set4 {W : World} {g : Nat} {r : Rc} (h : RcB W g r) (x : ByteArray) : RcB (W.setCell ⟨g, 4, none⟩ (.string x)) g { r with sb := x } := by
  unfold RcB Rc.cells at *
  simp [World.setCell, Array.getElem?_modify, h]
theorem _root_.Go.Proofs.YtokdfdinnaghmaaDoor.RcB.set5 {W : World} {g : Nat} {r : Rc} (h : RcB W g r) (x : Int) : RcB (W.setCell ⟨g, 5, none⟩ (.int .i64 x)) g { r with s5 := x } := by
  unfold RcB Rc.cells at *
  simp [World.setCell, Array.getElem?_modify, h]
theorem _root_.Go.Proofs.YtokdfdinnaghmaaDoor.RcB.set6 {W : World} {g : Nat} {r : Rc} (h : RcB W g r) (x : Int) : RcB (W.setCell ⟨g, 6, none⟩ (.int .i64 x)) g { r with s6 := x } := by
  unfold RcB Rc.cells at *
  simp [World.setCell, Array.getElem?_modify, h]
theorem _root_.Go.Proofs.YtokdfdinnaghmaaDoor.RcB.set7 {W : World} {g : Nat} {r : Rc} (h : RcB W g r) (x : Int) : RcB (W.setCell ⟨g, 7, none⟩ (.int .i64 x)) g { r with s7 := x } := by
  unfold RcB Rc.cells at *
  simp [World.setCell, Array.getElem?_modify, h]
theorem _root_.Go.Proofs.YtokdfdinnaghmaaDoor.RcB.set8 {W : World} {g : Nat} {r : Rc} (h : RcB W g r) (x : Int) : RcB (W.setCell ⟨g, 8, none⟩ (.int .i64 x)) g { r with s8 := x } := by
  unfold RcB Rc.cells at *
  simp [World.setCell, Array.getElem?_modify, h]
theorem _root_.Go.Proofs.YtokdfdinnaghmaaDoor.RcB.set9 {W : World} {g : Nat} {r : Rc} (h : RcB W g r) (x : Bool) : RcB (W.setCell ⟨g, 9, none⟩ (.bool x)) g { r with b9 := x } := by
  unfold RcB Rc.cells at *
  simp [World.setCell, Array.getElem?_modify, h]
theorem _root_.Go.Proofs.YtokdfdinnaghmaaDoor.RcB.set10 {W : World} {g : Nat} {r : Rc} (h : RcB W g r) (x : Int) : RcB (W.setCell ⟨g, 10, none⟩ (.int .i64 x)) g { r with s10 := x } := by
  unfold RcB Rc.cells at *
  simp [World.setCell, Array.getElem?_modify, h]
theorem _root_.Go.Proofs.YtokdfdinnaghmaaDoor.RcB.set11 {W : World} {g : Nat} {r : Rc} (h : RcB W g r) (x : Bool) : RcB (W.setCell ⟨g, 11, none⟩ (.bool x)) g { r with b11 := x } := by
  unfold RcB Rc.cells at *
  simp [World.setCell, Array.getElem?_modify, h]
/-- The reader that begins: the words of a row that lies ahead of it. -/
theorem rd_new {W : World} {b0 : Nat} {v : Value} {l : List ByteArray} (h : W.ownsRow b0 9 1 v l.length (l.map Value.string)) (hz : ∀ x ∈ l, x.size ≤ maxLen) (hl : 0 < l.length) :
    ∃ p c, v = .slice p l.length c ∧ TxA (W.alloc (.cells #[v, .bool false] 62)) W.heap.size ⟨byt l, false⟩ := by
  obtain ⟨h1, h2⟩ := h
  rcases h2 with ⟨_, h2⟩ | ⟨g, cap, cur, rfl, hg, hh, hn, hcap, hsz, htake⟩
  · omega
  have hlt : g < W.heap.size := (Array.getElem?_eq_some_iff.1 hh).1
  refine ⟨_, _, rfl, _, _, _, l, ⟨new_at _ _, rfl, hn, hcap, fun k hk => ⟨g, 0, rfl, by simp; omega, hlt, ?_⟩, hz⟩, rfl⟩
  rw [Below.cell (Below.alloc (Below.refl _ W) (Nat.le_refl _) _) hlt, Nat.zero_add]
  have h3 : (cur.toList.take (l.length * 1))[k]? = some (.string l[k]) := by rw [htake]; simp [hk]
  rw [List.getElem?_take_of_lt (by omega)] at h3
  simpa [World.cell?, hh] using h3
end Go.Proofs.YtokdfdinnaghmaaDoor.Tx
