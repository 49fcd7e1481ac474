/-
  DERIVED. GIVEN WITH THE SEED: THE CARDS: each row of YtokdfdinnaghmaaDoorRows.lean that lists a variable, with what it lists TIED to the program's text (the seventh form; the later family's looks); each row that meets fmt, with fmt's text TOLD by the authors' own Lean function (tested against real Go, not proved from fmt's source: count such statements apart). THE CARD IS WHAT COUNTS. Prove the row's statement (the work); the ties are given (YtokdfdinnaghmaaDoorTie.lean); close each card by the builder's one call (the guide's Derived/Test/ToyasCard.lean, 'card_holds'). Laid BY PROGRAM, IN A SANDBOX (cutbox-door.mjs). By AI agents, Wed Nov 11 2026. No macro, syntax, notation, axiom, sorry.
-/
import Derived.Test.YtokdfdinnaghmaaDoorRows
import GoSem.ClaimSeven
namespace Go.Proofs.YtokdfdinnaghmaaDoor
namespace Rows

/-- THE TIED CARD OF 'billinglaw09.TextualEncodes'. -/
def textualEncodesCard : Claim7 := { stood := { row := textualEncodesRow, standIns := [], harness := (true, "525011a3f632be74f3567fc55e26123892befba30ebc44e5e605aadcfafb2a82"), looks := true }, kinds := [], alts := [], laidByText := true, laidKinds := [.data, .data, .data, .sentinel, .sentinel], laidTests := true, laidLooks := .later }
def TextualEncodesCardSaid : Prop := Claim7.holds Tryd.pinned (.plain (OpenSpec.ofChange textualEncodesSpec)) textualEncodesCard

/-- THE TIED CARD OF 'billinglaw09.TextualDecodes'. -/
def textualDecodesCard : Claim7 := { stood := { row := textualDecodesRow, standIns := [], harness := (true, "525011a3f632be74f3567fc55e26123892befba30ebc44e5e605aadcfafb2a82"), looks := true }, kinds := [], alts := [], laidByText := true, laidKinds := [.data, .data, .data, .sentinel, .sentinel], laidTests := true, laidLooks := .later }
def TextualDecodesCardSaid : Prop := Claim7.holds Tryd.pinned (.plain (OpenSpec.ofChange textualDecodesSpec)) textualDecodesCard

/-- THE TIED CARD OF 'billinglaw09.TextualTexts'. -/
def textualTextsCard : Claim7 := { stood := { row := textualTextsRow, standIns := [], harness := (true, "525011a3f632be74f3567fc55e26123892befba30ebc44e5e605aadcfafb2a82"), looks := true }, kinds := [], alts := [], laidByText := true, laidKinds := [.data, .data, .data, .sentinel, .sentinel], laidTests := true, laidLooks := .later }
def TextualTextsCardSaid : Prop := Claim7.holds Tryd.pinned (.plain (OpenSpec.ofChange textualTextsSpec)) textualTextsCard

/-- THE TIED CARD OF 'billinglaw09.TextualBack'. -/
def textualBackCard : Claim7 := { stood := { row := textualBackRow, standIns := [], harness := (true, "525011a3f632be74f3567fc55e26123892befba30ebc44e5e605aadcfafb2a82"), looks := true }, kinds := [], alts := [], laidByText := true, laidKinds := [.data, .data, .data, .sentinel, .sentinel], laidTests := true, laidLooks := .later }
def TextualBackCardSaid : Prop := Claim7.holds Tryd.pinned (.plain (OpenSpec.ofChange textualBackSpec)) textualBackCard

/-- THE TIED CARD OF 'billinglaw09.TextualAll'. -/
def textualAllCard : Claim7 := { stood := { row := textualAllRow, standIns := [], harness := (true, "525011a3f632be74f3567fc55e26123892befba30ebc44e5e605aadcfafb2a82"), looks := true }, kinds := [], alts := [], laidByText := true, laidKinds := [.data, .data, .data, .sentinel, .sentinel], laidTests := true, laidLooks := .later }
def TextualAllCardSaid : Prop := Claim7.holds Tryd.pinned (.plain (OpenSpec.ofChange textualAllSpec)) textualAllCard

/-- THE SECOND FORM's CARD OF 'billinglaw09.TextualEncodes'. -/
def textualEncodesUptoCard : Claim7 := { stood := { row := textualEncodesUptoRow, standIns := [], harness := (true, "525011a3f632be74f3567fc55e26123892befba30ebc44e5e605aadcfafb2a82"), looks := true }, kinds := [], alts := [], laidByText := true, laidKinds := [.data, .data, .data, .sentinel, .sentinel], laidTests := true, laidLooks := .later }
def TextualEncodesUptoCardSaid : Prop := Claim7.holds Tryd.pinned (.plain (OpenSpec.upto textualEncodesSpec)) textualEncodesUptoCard

/-- THE SECOND FORM's CARD OF 'billinglaw09.TextualDecodes'. -/
def textualDecodesUptoCard : Claim7 := { stood := { row := textualDecodesUptoRow, standIns := [], harness := (true, "525011a3f632be74f3567fc55e26123892befba30ebc44e5e605aadcfafb2a82"), looks := true }, kinds := [], alts := [], laidByText := true, laidKinds := [.data, .data, .data, .sentinel, .sentinel], laidTests := true, laidLooks := .later }
def TextualDecodesUptoCardSaid : Prop := Claim7.holds Tryd.pinned (.plain (OpenSpec.upto textualDecodesSpec)) textualDecodesUptoCard

/-- THE SECOND FORM's CARD OF 'billinglaw09.TextualTexts'. -/
def textualTextsUptoCard : Claim7 := { stood := { row := textualTextsUptoRow, standIns := [], harness := (true, "525011a3f632be74f3567fc55e26123892befba30ebc44e5e605aadcfafb2a82"), looks := true }, kinds := [], alts := [], laidByText := true, laidKinds := [.data, .data, .data, .sentinel, .sentinel], laidTests := true, laidLooks := .later }
def TextualTextsUptoCardSaid : Prop := Claim7.holds Tryd.pinned (.plain (OpenSpec.upto textualTextsSpec)) textualTextsUptoCard

/-- THE SECOND FORM's CARD OF 'billinglaw09.TextualBack'. -/
def textualBackUptoCard : Claim7 := { stood := { row := textualBackUptoRow, standIns := [], harness := (true, "525011a3f632be74f3567fc55e26123892befba30ebc44e5e605aadcfafb2a82"), looks := true }, kinds := [], alts := [], laidByText := true, laidKinds := [.data, .data, .data, .sentinel, .sentinel], laidTests := true, laidLooks := .later }
def TextualBackUptoCardSaid : Prop := Claim7.holds Tryd.pinned (.plain (OpenSpec.upto textualBackSpec)) textualBackUptoCard

/-- THE SECOND FORM's CARD OF 'billinglaw09.TextualAll'. -/
def textualAllUptoCard : Claim7 := { stood := { row := textualAllUptoRow, standIns := [], harness := (true, "525011a3f632be74f3567fc55e26123892befba30ebc44e5e605aadcfafb2a82"), looks := true }, kinds := [], alts := [], laidByText := true, laidKinds := [.data, .data, .data, .sentinel, .sentinel], laidTests := true, laidLooks := .later }
def TextualAllUptoCardSaid : Prop := Claim7.holds Tryd.pinned (.plain (OpenSpec.upto textualAllSpec)) textualAllUptoCard
end Rows
end Go.Proofs.YtokdfdinnaghmaaDoor
