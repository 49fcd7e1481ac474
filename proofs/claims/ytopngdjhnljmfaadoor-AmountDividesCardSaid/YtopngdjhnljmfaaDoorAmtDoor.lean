/- The table of powers: what the row lists, and what the walks ask. -/
import Derived.Test.YtopngdjhnljmfaaDoorRows
import Derived.Test.YtopngdjhnljmfaaDoorAmtTxtM
import Derived.Test.YtopngdjhnljmfaaDoorLawKit
import Derived.LaidMore
import Derived.Lib.LaidTab
import Derived.Stop.Joined
import Derived.SizedLaws
namespace Go.Proofs.YtopngdjhnljmfaaDoor
open Go.ChangeShapes Go.WideShapes Go.ChangeAt Go.RowKit

theorem own : ownKnob Tryd.prog.godebug = none := by kernel_rfl
theorem laidOut : laidOutB Tryd.prog = true := by kernel_rfl
abbrev laidL : List (String × DataW Unit) := [("billing/amount.powers", Rows.laid_billing_amount_powers)]
theorem door_met (os : Os) (args : Array Value) : laidMetH Tryd.prog laidL ((World.doorLaid Tryd.prog 400 os).forCall (fun _ _ => 0) ⟨#[], args, []⟩).memory :=
  laidMetH_of_parts3 (fuel := 8) (laidMet_of_run' 8 (by kernel_rfl) (by kernel_rfl)) (by kernel_rfl) (by kernel_rfl)
def powZ : List Int := [1, 10, 100, 1000, 10000, 100000, 1000000, 10000000, 100000000, 1000000000, 10000000000, 100000000000, 1000000000000, 10000000000000, 100000000000000, 1000000000000000, 10000000000000000, 100000000000000000, 1000000000000000000]
theorem powZ_at (i : Nat) (h : i < 19) : powZ[i]? = some ((10 : Int) ^ i) := by
  have key : ∀ i : Fin 19, powZ[i.val]? = some ((10 : Int) ^ i.val) := by decide
  exact key ⟨i, h⟩
theorem of_laid {W : World} (h : laidMetH Tryd.prog laidL W) : Pows W ∧ 0 < W.heap.size := by
  rw [MakeChecks.laidMetH_plain _ _ _ (by kernel_rfl)] at h
  have g : Tryd.prog.globalNamed "billing/amount.powers" = some 0 := by kernel_rfl
  have t : Lib.TabIs Tryd.prog W "billing/amount.powers" .u64 powZ :=
    Lib.tabIs_of_head (t := 51) (e := 37) (n := 19) (rest := []) g (by kernel_rfl) (by kernel_rfl) (by kernel_rfl) (by kernel_rfl) (by kernel_rfl) h
  have hc : Pows W := fun i hi => by
    rw [World.var?_cell g t i]
    simp [List.getElem?_map, powZ_at i hi]
  exact ⟨hc, cell_block_lt (hc 0 (by omega))⟩
theorem isRow_at {H : Type} {enc : TypeId × Value → H} {P : Program} {w : World} {t e : TypeId} {k : IntKind} {d : DataW H} {p : List MemPlace} {a : Option Addr} {len cap : Nat}
    (ht : P.underlying t = some (.slice e)) (he : P.underlying e = some (.int k)) (hc : P.cellsOf e = 1)
    (h : DataW.Trod enc P w 0 (fun _ => true) true t (.slice a len cap) d p) : ∃ zs, IsRow k w a len cap zs ∧ (len = 0 ∨ (d = .slice (lits k (zs.take len)) (lits k (zs.drop len)) ∧ len ≤ zs.length)) := by
  obtain ⟨fuel, hf⟩ := h
  rcases open_ints ht he hc hf with ⟨hcs, _⟩ | ⟨x, l, c, zs, hcs, _, hl, hm, hz, hd, hcell, hwz⟩
  · simp [Value.cells] at hcs
    obtain ⟨rfl, rfl, rfl⟩ := hcs
    exact ⟨[], .inl ⟨rfl, rfl, rfl, rfl⟩, .inl rfl⟩
  · simp [Value.cells] at hcs
    obtain ⟨rfl, rfl, rfl⟩ := hcs
    have hz' : zs.length = cap := by simpa using hz
    simp only [Prod.mk.injEq] at hd
    exact ⟨zs, .inr ⟨_, rfl, hl, hm, hz', hcell, hwz⟩, .inr ⟨hd.1, by omega⟩⟩
end Go.Proofs.YtopngdjhnljmfaaDoor
