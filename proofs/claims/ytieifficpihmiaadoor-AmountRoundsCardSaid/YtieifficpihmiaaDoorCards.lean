/-
  DERIVED. GIVEN WITH THE SEED: THE CARDS: each row of YtieifficpihmiaaDoorRows.lean that lists a variable, with what it lists TIED to the program's text (the seventh form; the later family's looks); each row that meets fmt, with fmt's text TOLD by the authors' own Lean function (tested against real Go, not proved from fmt's source: count such statements apart). THE CARD IS WHAT COUNTS. Prove the row's statement (the work); the ties are given (YtieifficpihmiaaDoorTie.lean); close each card by the builder's one call (the guide's Derived/Test/ToyasCard.lean, 'card_holds'). Laid BY PROGRAM, IN A SANDBOX (cutbox-door.mjs). By AI agents, Wed Nov 11 2026. No macro, syntax, notation, axiom, sorry.
-/
import Derived.Test.YtieifficpihmiaaDoorRows
import GoSem.ClaimSeven
namespace Go.Proofs.YtieifficpihmiaaDoor
namespace Rows

/-- THE TIED CARD OF 'billinglaw01.AmountRounds'. -/
def amountRoundsCard : Claim7 := { stood := { row := amountRoundsRow, standIns := [], harness := (true, "c3f29980e76ba1d6ff9261f0905d51af36827482ebe8aaa4a8f61cff035c4c16"), looks := false }, kinds := [], alts := [], laidByText := true, laidKinds := [.data], laidTests := true, laidLooks := .later }
def AmountRoundsCardSaid : Prop := Claim7.holds Tryd.pinned (.plain (OpenSpec.ofChange amountRoundsSpec)) amountRoundsCard

/-- THE TIED CARD OF 'billinglaw01.AmountDivides'. -/
def amountDividesCard : Claim7 := { stood := { row := amountDividesRow, standIns := [], harness := (true, "c3f29980e76ba1d6ff9261f0905d51af36827482ebe8aaa4a8f61cff035c4c16"), looks := false }, kinds := [], alts := [], laidByText := true, laidKinds := [.data], laidTests := true, laidLooks := .later }
def AmountDividesCardSaid : Prop := Claim7.holds Tryd.pinned (.plain (OpenSpec.ofChange amountDividesSpec)) amountDividesCard

/-- THE TIED CARD OF 'billinglaw01.AmountSplit'. -/
def amountSplitCard : Claim7 := { stood := { row := amountSplitRow, standIns := [], harness := (true, "c3f29980e76ba1d6ff9261f0905d51af36827482ebe8aaa4a8f61cff035c4c16"), looks := false }, kinds := [], alts := [], laidByText := true, laidKinds := [.data], laidTests := true, laidLooks := .later }
def AmountSplitCardSaid : Prop := Claim7.holds Tryd.pinned (.plain (OpenSpec.ofChange amountSplitSpec)) amountSplitCard

/-- THE SECOND FORM's CARD OF 'billinglaw01.AmountRounds'. -/
def amountRoundsUptoCard : Claim7 := { stood := { row := amountRoundsUptoRow, standIns := [], harness := (true, "c3f29980e76ba1d6ff9261f0905d51af36827482ebe8aaa4a8f61cff035c4c16"), looks := false }, kinds := [], alts := [], laidByText := true, laidKinds := [.data], laidTests := true, laidLooks := .later }
def AmountRoundsUptoCardSaid : Prop := Claim7.holds Tryd.pinned (.plain (OpenSpec.upto amountRoundsSpec)) amountRoundsUptoCard

/-- THE SECOND FORM's CARD OF 'billinglaw01.AmountDivides'. -/
def amountDividesUptoCard : Claim7 := { stood := { row := amountDividesUptoRow, standIns := [], harness := (true, "c3f29980e76ba1d6ff9261f0905d51af36827482ebe8aaa4a8f61cff035c4c16"), looks := false }, kinds := [], alts := [], laidByText := true, laidKinds := [.data], laidTests := true, laidLooks := .later }
def AmountDividesUptoCardSaid : Prop := Claim7.holds Tryd.pinned (.plain (OpenSpec.upto amountDividesSpec)) amountDividesUptoCard

/-- THE SECOND FORM's CARD OF 'billinglaw01.AmountSplit'. -/
def amountSplitUptoCard : Claim7 := { stood := { row := amountSplitUptoRow, standIns := [], harness := (true, "c3f29980e76ba1d6ff9261f0905d51af36827482ebe8aaa4a8f61cff035c4c16"), looks := false }, kinds := [], alts := [], laidByText := true, laidKinds := [.data], laidTests := true, laidLooks := .later }
def AmountSplitUptoCardSaid : Prop := Claim7.holds Tryd.pinned (.plain (OpenSpec.upto amountSplitSpec)) amountSplitUptoCard
end Rows
end Go.Proofs.YtieifficpihmiaaDoor
