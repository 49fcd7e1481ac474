/-
  DERIVED. GIVEN WITH THE SEED: THE CARDS: each row of YtigohhliblgdhabDoorRows.lean that lists a variable, with what it lists TIED to the program's text (the seventh form; the later family's looks); each row that meets fmt, with fmt's text TOLD by the authors' own Lean function (tested against real Go, not proved from fmt's source: count such statements apart). THE CARD IS WHAT COUNTS. Prove the row's statement (the work); the ties are given (YtigohhliblgdhabDoorTie.lean); close each card by the builder's one call (the guide's Derived/Test/ToyasCard.lean, 'card_holds'). Laid BY PROGRAM, IN A SANDBOX (cutbox-door.mjs). By AI agents, Wed Nov 11 2026. No macro, syntax, notation, axiom, sorry.
-/
import Derived.Test.YtigohhliblgdhabDoorRows
import GoSem.ClaimSeven
namespace Go.Proofs.YtigohhliblgdhabDoor
namespace Rows

/-- THE TIED CARD OF 'billinglaw01.AmountPercents'. -/
def amountPercentsCard : Claim7 := { stood := { row := amountPercentsRow, standIns := [], harness := (true, "37551d0990c607554d90862dc190bbfeea7d655fbc65da63fcf45e1f9abbcdbf"), looks := false }, kinds := [], alts := [], laidByText := true, laidKinds := [.data], laidTests := true, laidLooks := .later }
def AmountPercentsCardSaid : Prop := Claim7.holds Tryd.pinned (.plain (OpenSpec.ofChange amountPercentsSpec)) amountPercentsCard

/-- THE TIED CARD OF 'billinglaw01.AmountRounds'. -/
def amountRoundsCard : Claim7 := { stood := { row := amountRoundsRow, standIns := [], harness := (true, "37551d0990c607554d90862dc190bbfeea7d655fbc65da63fcf45e1f9abbcdbf"), looks := false }, kinds := [], alts := [], laidByText := true, laidKinds := [.data], laidTests := true, laidLooks := .later }
def AmountRoundsCardSaid : Prop := Claim7.holds Tryd.pinned (.plain (OpenSpec.ofChange amountRoundsSpec)) amountRoundsCard

/-- THE TIED CARD OF 'billinglaw01.AmountTotals'. -/
def amountTotalsCard : Claim7 := { stood := { row := amountTotalsRow, standIns := [], harness := (true, "37551d0990c607554d90862dc190bbfeea7d655fbc65da63fcf45e1f9abbcdbf"), looks := false }, kinds := [], alts := [], laidByText := true, laidKinds := [.data], laidTests := true, laidLooks := .later }
def AmountTotalsCardSaid : Prop := Claim7.holds Tryd.pinned (.plain (OpenSpec.ofChange amountTotalsSpec)) amountTotalsCard

/-- THE TIED CARD OF 'billinglaw01.AmountDivides'. -/
def amountDividesCard : Claim7 := { stood := { row := amountDividesRow, standIns := [], harness := (true, "37551d0990c607554d90862dc190bbfeea7d655fbc65da63fcf45e1f9abbcdbf"), looks := false }, kinds := [], alts := [], laidByText := true, laidKinds := [.data], laidTests := true, laidLooks := .later }
def AmountDividesCardSaid : Prop := Claim7.holds Tryd.pinned (.plain (OpenSpec.ofChange amountDividesSpec)) amountDividesCard

/-- THE TIED CARD OF 'billinglaw01.AmountSplit'. -/
def amountSplitCard : Claim7 := { stood := { row := amountSplitRow, standIns := [], harness := (true, "37551d0990c607554d90862dc190bbfeea7d655fbc65da63fcf45e1f9abbcdbf"), looks := false }, kinds := [], alts := [], laidByText := true, laidKinds := [.data], laidTests := true, laidLooks := .later }
def AmountSplitCardSaid : Prop := Claim7.holds Tryd.pinned (.plain (OpenSpec.ofChange amountSplitSpec)) amountSplitCard

/-- THE SECOND FORM's CARD OF 'billinglaw01.AmountPercents'. -/
def amountPercentsUptoCard : Claim7 := { stood := { row := amountPercentsUptoRow, standIns := [], harness := (true, "37551d0990c607554d90862dc190bbfeea7d655fbc65da63fcf45e1f9abbcdbf"), looks := false }, kinds := [], alts := [], laidByText := true, laidKinds := [.data], laidTests := true, laidLooks := .later }
def AmountPercentsUptoCardSaid : Prop := Claim7.holds Tryd.pinned (.plain (OpenSpec.upto amountPercentsSpec)) amountPercentsUptoCard

/-- THE SECOND FORM's CARD OF 'billinglaw01.AmountRounds'. -/
def amountRoundsUptoCard : Claim7 := { stood := { row := amountRoundsUptoRow, standIns := [], harness := (true, "37551d0990c607554d90862dc190bbfeea7d655fbc65da63fcf45e1f9abbcdbf"), looks := false }, kinds := [], alts := [], laidByText := true, laidKinds := [.data], laidTests := true, laidLooks := .later }
def AmountRoundsUptoCardSaid : Prop := Claim7.holds Tryd.pinned (.plain (OpenSpec.upto amountRoundsSpec)) amountRoundsUptoCard

/-- THE SECOND FORM's CARD OF 'billinglaw01.AmountTotals'. -/
def amountTotalsUptoCard : Claim7 := { stood := { row := amountTotalsUptoRow, standIns := [], harness := (true, "37551d0990c607554d90862dc190bbfeea7d655fbc65da63fcf45e1f9abbcdbf"), looks := false }, kinds := [], alts := [], laidByText := true, laidKinds := [.data], laidTests := true, laidLooks := .later }
def AmountTotalsUptoCardSaid : Prop := Claim7.holds Tryd.pinned (.plain (OpenSpec.upto amountTotalsSpec)) amountTotalsUptoCard

/-- THE SECOND FORM's CARD OF 'billinglaw01.AmountDivides'. -/
def amountDividesUptoCard : Claim7 := { stood := { row := amountDividesUptoRow, standIns := [], harness := (true, "37551d0990c607554d90862dc190bbfeea7d655fbc65da63fcf45e1f9abbcdbf"), looks := false }, kinds := [], alts := [], laidByText := true, laidKinds := [.data], laidTests := true, laidLooks := .later }
def AmountDividesUptoCardSaid : Prop := Claim7.holds Tryd.pinned (.plain (OpenSpec.upto amountDividesSpec)) amountDividesUptoCard

/-- THE SECOND FORM's CARD OF 'billinglaw01.AmountSplit'. -/
def amountSplitUptoCard : Claim7 := { stood := { row := amountSplitUptoRow, standIns := [], harness := (true, "37551d0990c607554d90862dc190bbfeea7d655fbc65da63fcf45e1f9abbcdbf"), looks := false }, kinds := [], alts := [], laidByText := true, laidKinds := [.data], laidTests := true, laidLooks := .later }
def AmountSplitUptoCardSaid : Prop := Claim7.holds Tryd.pinned (.plain (OpenSpec.upto amountSplitSpec)) amountSplitUptoCard
end Rows
end Go.Proofs.YtigohhliblgdhabDoor
