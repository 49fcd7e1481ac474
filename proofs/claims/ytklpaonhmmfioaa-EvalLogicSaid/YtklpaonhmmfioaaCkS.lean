/- Walks: checkStep, the closure of Steps, examine over steps, Steps. -/
import Derived.Test.YtklpaonhmmfioaaCkA
namespace Go.Proofs.Ytklpaonhmmfioaa.Ck
open Go Go.Lib Go.RowKit Go.Proofs.Ytklpaonhmmfioaa

def Sp.cells (s : Sp) : Array Value := #[.int .i64 s.up, .int .i64 s.qu, .int .i64 s.pr]
/-- A slice that reads as a list of steps. -/
def SpR (w : World) (A : Option Addr) (l : List Sp) : Prop := ∀ k, k < l.length → ∃ b off, A = some ⟨b, off, none⟩ ∧ b < w.heap.size ∧ w.cell? ⟨b, off + k * 3, none⟩ = some (.int .i64 (l.getD k sp0).up) ∧ w.cell? ⟨b, off + k * 3 + 1, none⟩ = some (.int .i64 (l.getD k sp0).qu) ∧ w.cell? ⟨b, off + k * 3 + 2, none⟩ = some (.int .i64 (l.getD k sp0).pr)
theorem SpR.nil (w : World) (A : Option Addr) : SpR w A [] := fun k hk => absurd hk (Nat.not_lt_zero k)
theorem SpR.below {w w' : World} {A : Option Addr} {l : List Sp} {B : Nat} (h : SpR w A l) (hb : Below B w w') (hB : B = w.heap.size) : SpR w' A l := fun k hk => by
  subst hB
  obtain ⟨b, off, e, h1, h2, h3, h4⟩ := h k hk
  exact ⟨b, off, e, Nat.lt_of_lt_of_le h1 hb.size, (hb.cell (p := ⟨b, off + k * 3, none⟩) h1).trans h2, (hb.cell (p := ⟨b, off + k * 3 + 1, none⟩) h1).trans h3, (hb.cell (p := ⟨b, off + k * 3 + 2, none⟩) h1).trans h4⟩
theorem gr_set (w : World) (g i : Nat) (u : Value) : w.grownBy (w.setCell ⟨g, i, none⟩ u) (some g) :=
  ⟨rfl, rfl, rfl, by simp [World.setCell], fun k _ hk => Below.heap_setCell _ _ _ _ (fun e => hk (by rw [e]))⟩
theorem gr_below {w w' : World} {row : Option Nat} (hb : Below w.heap.size w w') : w.grownBy w' row := ⟨hb.os, hb.tape, hb.output, hb.size, fun i hi _ => hb.block i hi⟩
theorem gr_refl (w : World) (row : Option Nat) : w.grownBy w row := ⟨rfl, rfl, rfl, Nat.le_refl _, fun _ _ _ => rfl⟩
theorem gr_tr {a b c : World} {row : Option Nat} (h : a.grownBy b row) (k : b.grownBy c row) : a.grownBy c row :=
  ⟨k.os.trans h.os, k.tape.trans h.tape, k.output.trans h.output, Nat.le_trans h.size k.size, fun i hi hr => (k.block i (Nat.lt_of_lt_of_le hi h.size) hr).trans (h.block i hi hr)⟩
/-- What only reaches a block that came later leaves what lies below it. -/
theorem gr_own {a w w' : World} {g : Nat} (hb : Below a.heap.size a w) (hg : a.heap.size ≤ g) (h : w.grownBy w' (some g)) : Below a.heap.size a w' :=
  ⟨h.os.trans hb.os, h.tape.trans hb.tape, h.output.trans hb.output, Nat.le_trans hb.size h.size, fun i hi => (h.block i (Nat.lt_of_lt_of_le hi hb.size) (fun e => by have := Option.some.inj e; omega)).trans (hb.block i hi)⟩

end Go.Proofs.Ytklpaonhmmfioaa.Ck
