/-
  DERIVED. GIVEN WITH THE SEED: THE CARDS: each row of YtopngdjhnljmfaaDoorRows.lean that lists a variable, with what it lists TIED to the program's text (the seventh form; the later family's looks); each row that meets fmt, with fmt's text TOLD by the authors' own Lean function (tested against real Go, not proved from fmt's source: count such statements apart). THE CARD IS WHAT COUNTS. Prove the row's statement (the work); the ties are given (YtopngdjhnljmfaaDoorTie.lean); close each card by the builder's one call (the guide's Derived/Test/ToyasCard.lean, 'card_holds'). Laid BY PROGRAM, IN A SANDBOX (cutbox-door.mjs). By AI agents, Wed Nov 11 2026. No macro, syntax, notation, axiom, sorry.
-/
import Derived.Test.YtopngdjhnljmfaaDoorRows
import GoSem.ClaimSeven
namespace Go.Proofs.YtopngdjhnljmfaaDoor
namespace Rows

/-- THE TIED CARD OF 'billinglaw01.AmountDivides'. -/
def amountDividesCard : Claim7 := { stood := { row := amountDividesRow, standIns := [], harness := (true, "542c0d602442b5225d309b1e9fa46c81df1af31f0fa897a0786f48adee0af4d2"), looks := false }, kinds := [], alts := [], laidByText := true, laidKinds := [.data], laidTests := true, laidLooks := .later }
def AmountDividesCardSaid : Prop := Claim7.holds Tryd.pinned (.plain (OpenSpec.ofChange amountDividesSpec)) amountDividesCard

/-- THE TIED CARD OF 'billinglaw01.AmountSplit'. -/
def amountSplitCard : Claim7 := { stood := { row := amountSplitRow, standIns := [], harness := (true, "542c0d602442b5225d309b1e9fa46c81df1af31f0fa897a0786f48adee0af4d2"), looks := false }, kinds := [], alts := [], laidByText := true, laidKinds := [.data], laidTests := true, laidLooks := .later }
def AmountSplitCardSaid : Prop := Claim7.holds Tryd.pinned (.plain (OpenSpec.ofChange amountSplitSpec)) amountSplitCard

/-- THE SECOND FORM's CARD OF 'billinglaw01.AmountDivides'. -/
def amountDividesUptoCard : Claim7 := { stood := { row := amountDividesUptoRow, standIns := [], harness := (true, "542c0d602442b5225d309b1e9fa46c81df1af31f0fa897a0786f48adee0af4d2"), looks := false }, kinds := [], alts := [], laidByText := true, laidKinds := [.data], laidTests := true, laidLooks := .later }
def AmountDividesUptoCardSaid : Prop := Claim7.holds Tryd.pinned (.plain (OpenSpec.upto amountDividesSpec)) amountDividesUptoCard

/-- THE SECOND FORM's CARD OF 'billinglaw01.AmountSplit'. -/
def amountSplitUptoCard : Claim7 := { stood := { row := amountSplitUptoRow, standIns := [], harness := (true, "542c0d602442b5225d309b1e9fa46c81df1af31f0fa897a0786f48adee0af4d2"), looks := false }, kinds := [], alts := [], laidByText := true, laidKinds := [.data], laidTests := true, laidLooks := .later }
def AmountSplitUptoCardSaid : Prop := Claim7.holds Tryd.pinned (.plain (OpenSpec.upto amountSplitSpec)) amountSplitUptoCard
end Rows
end Go.Proofs.YtopngdjhnljmfaaDoor
