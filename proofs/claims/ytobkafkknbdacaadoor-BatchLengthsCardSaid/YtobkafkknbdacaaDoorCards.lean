/-
  DERIVED. GIVEN WITH THE SEED: THE CARDS: each row of YtobkafkknbdacaaDoorRows.lean that lists a variable, with what it lists TIED to the program's text (the seventh form; the later family's looks); each row that meets fmt, with fmt's text TOLD by the authors' own Lean function (tested against real Go, not proved from fmt's source: count such statements apart). THE CARD IS WHAT COUNTS. Prove the row's statement (the work); the ties are given (YtobkafkknbdacaaDoorTie.lean); close each card by the builder's one call (the guide's Derived/Test/ToyasCard.lean, 'card_holds'). Laid BY PROGRAM, IN A SANDBOX (cutbox-door.mjs). By AI agents, Wed Nov 11 2026. No macro, syntax, notation, axiom, sorry.
-/
import Derived.Test.YtobkafkknbdacaaDoorRows
import GoSem.ClaimSeven
namespace Go.Proofs.YtobkafkknbdacaaDoor
namespace Rows

/-- THE TIED CARD OF 'billinglaw12.BatchTotals'. -/
def batchTotalsCard : Claim7 := { stood := { row := batchTotalsRow, standIns := [], harness := (true, "ab0169a2216fc858ba478b5bcaa3899b15e810adfe4167c58a6ab29c0c0b948c"), looks := false }, kinds := [], alts := [], laidByText := true, laidKinds := [.data, .data, .data], laidTests := true, laidLooks := .later }
def BatchTotalsCardSaid : Prop := Claim7.holds Tryd.pinned (.plain (OpenSpec.ofChange batchTotalsSpec)) batchTotalsCard

/-- THE TIED CARD OF 'billinglaw12.BatchLengths'. -/
def batchLengthsCard : Claim7 := { stood := { row := batchLengthsRow, standIns := [], harness := (true, "ab0169a2216fc858ba478b5bcaa3899b15e810adfe4167c58a6ab29c0c0b948c"), looks := false }, kinds := [], alts := [], laidByText := true, laidKinds := [.data, .data, .data], laidTests := true, laidLooks := .later }
def BatchLengthsCardSaid : Prop := Claim7.holds Tryd.pinned (.plain (OpenSpec.ofChange batchLengthsSpec)) batchLengthsCard

/-- THE SECOND FORM's CARD OF 'billinglaw12.BatchTotals'. -/
def batchTotalsUptoCard : Claim7 := { stood := { row := batchTotalsUptoRow, standIns := [], harness := (true, "ab0169a2216fc858ba478b5bcaa3899b15e810adfe4167c58a6ab29c0c0b948c"), looks := false }, kinds := [], alts := [], laidByText := true, laidKinds := [.data, .data, .data], laidTests := true, laidLooks := .later }
def BatchTotalsUptoCardSaid : Prop := Claim7.holds Tryd.pinned (.plain (OpenSpec.upto batchTotalsSpec)) batchTotalsUptoCard

/-- THE SECOND FORM's CARD OF 'billinglaw12.BatchLengths'. -/
def batchLengthsUptoCard : Claim7 := { stood := { row := batchLengthsUptoRow, standIns := [], harness := (true, "ab0169a2216fc858ba478b5bcaa3899b15e810adfe4167c58a6ab29c0c0b948c"), looks := false }, kinds := [], alts := [], laidByText := true, laidKinds := [.data, .data, .data], laidTests := true, laidLooks := .later }
def BatchLengthsUptoCardSaid : Prop := Claim7.holds Tryd.pinned (.plain (OpenSpec.upto batchLengthsSpec)) batchLengthsUptoCard
end Rows
end Go.Proofs.YtobkafkknbdacaaDoor
