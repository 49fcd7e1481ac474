/-
  DERIVED. GIVEN WITH THE SEED: THE CARDS: each row of YtigohhliblgdhaaDoorRows.lean that lists a variable, with what it lists TIED to the program's text (the seventh form; the later family's looks); each row that meets fmt, with fmt's text TOLD by the authors' own Lean function (tested against real Go, not proved from fmt's source: count such statements apart). THE CARD IS WHAT COUNTS. Prove the row's statement (the work); the ties are given (YtigohhliblgdhaaDoorTie.lean); close each card by the builder's one call (the guide's Derived/Test/ToyasCard.lean, 'card_holds'). Laid BY PROGRAM, IN A SANDBOX (cutbox-door.mjs). By AI agents, Wed Nov 11 2026. No macro, syntax, notation, axiom, sorry.
-/
import Derived.Test.YtigohhliblgdhaaDoorRows
import GoSem.ClaimSeven
namespace Go.Proofs.YtigohhliblgdhaaDoor
namespace Rows

/-- THE TIED CARD OF 'billinglaw03.CalendarDays'. -/
def calendarDaysCard : Claim7 := { stood := { row := calendarDaysRow, standIns := [], harness := (true, "40bd8531e2039a2eec829da858c4ed97fb7ecce847c6d3bfb57af7b7ba4a041b"), looks := false }, kinds := [], alts := [], laidByText := true, laidKinds := [.data, .data, .data], laidTests := true, laidLooks := .later }
def CalendarDaysCardSaid : Prop := Claim7.holds Tryd.pinned (.plain (OpenSpec.ofChange calendarDaysSpec)) calendarDaysCard

/-- THE TIED CARD OF 'billinglaw03.CalendarDates'. -/
def calendarDatesCard : Claim7 := { stood := { row := calendarDatesRow, standIns := [], harness := (true, "40bd8531e2039a2eec829da858c4ed97fb7ecce847c6d3bfb57af7b7ba4a041b"), looks := false }, kinds := [], alts := [], laidByText := true, laidKinds := [.data, .data, .data], laidTests := true, laidLooks := .later }
def CalendarDatesCardSaid : Prop := Claim7.holds Tryd.pinned (.plain (OpenSpec.ofChange calendarDatesSpec)) calendarDatesCard

/-- THE TIED CARD OF 'billinglaw03.CalendarBack'. -/
def calendarBackCard : Claim7 := { stood := { row := calendarBackRow, standIns := [], harness := (true, "40bd8531e2039a2eec829da858c4ed97fb7ecce847c6d3bfb57af7b7ba4a041b"), looks := false }, kinds := [], alts := [], laidByText := true, laidKinds := [.data, .data, .data], laidTests := true, laidLooks := .later }
def CalendarBackCardSaid : Prop := Claim7.holds Tryd.pinned (.plain (OpenSpec.ofChange calendarBackSpec)) calendarBackCard

/-- THE TIED CARD OF 'billinglaw03.CalendarCycles'. -/
def calendarCyclesCard : Claim7 := { stood := { row := calendarCyclesRow, standIns := [], harness := (true, "40bd8531e2039a2eec829da858c4ed97fb7ecce847c6d3bfb57af7b7ba4a041b"), looks := false }, kinds := [], alts := [], laidByText := true, laidKinds := [.data, .data, .data], laidTests := true, laidLooks := .later }
def CalendarCyclesCardSaid : Prop := Claim7.holds Tryd.pinned (.plain (OpenSpec.ofChange calendarCyclesSpec)) calendarCyclesCard

/-- THE TIED CARD OF 'billinglaw03.CalendarTiles'. -/
def calendarTilesCard : Claim7 := { stood := { row := calendarTilesRow, standIns := [], harness := (true, "40bd8531e2039a2eec829da858c4ed97fb7ecce847c6d3bfb57af7b7ba4a041b"), looks := false }, kinds := [], alts := [], laidByText := true, laidKinds := [.data, .data, .data], laidTests := true, laidLooks := .later }
def CalendarTilesCardSaid : Prop := Claim7.holds Tryd.pinned (.plain (OpenSpec.ofChange calendarTilesSpec)) calendarTilesCard

/-- THE TIED CARD OF 'billinglaw03.CalendarPrints'. -/
def calendarPrintsCard : Claim7 := { stood := { row := calendarPrintsRow, standIns := [], harness := (true, "40bd8531e2039a2eec829da858c4ed97fb7ecce847c6d3bfb57af7b7ba4a041b"), looks := false }, kinds := [], alts := [], laidByText := true, laidKinds := [.data, .data, .data], laidTests := true, laidLooks := .later }
def CalendarPrintsCardSaid : Prop := Claim7.holds Tryd.pinned (.plain (OpenSpec.ofChange calendarPrintsSpec)) calendarPrintsCard

/-- THE SECOND FORM's CARD OF 'billinglaw03.CalendarDays'. -/
def calendarDaysUptoCard : Claim7 := { stood := { row := calendarDaysUptoRow, standIns := [], harness := (true, "40bd8531e2039a2eec829da858c4ed97fb7ecce847c6d3bfb57af7b7ba4a041b"), looks := false }, kinds := [], alts := [], laidByText := true, laidKinds := [.data, .data, .data], laidTests := true, laidLooks := .later }
def CalendarDaysUptoCardSaid : Prop := Claim7.holds Tryd.pinned (.plain (OpenSpec.upto calendarDaysSpec)) calendarDaysUptoCard

/-- THE SECOND FORM's CARD OF 'billinglaw03.CalendarDates'. -/
def calendarDatesUptoCard : Claim7 := { stood := { row := calendarDatesUptoRow, standIns := [], harness := (true, "40bd8531e2039a2eec829da858c4ed97fb7ecce847c6d3bfb57af7b7ba4a041b"), looks := false }, kinds := [], alts := [], laidByText := true, laidKinds := [.data, .data, .data], laidTests := true, laidLooks := .later }
def CalendarDatesUptoCardSaid : Prop := Claim7.holds Tryd.pinned (.plain (OpenSpec.upto calendarDatesSpec)) calendarDatesUptoCard

/-- THE SECOND FORM's CARD OF 'billinglaw03.CalendarBack'. -/
def calendarBackUptoCard : Claim7 := { stood := { row := calendarBackUptoRow, standIns := [], harness := (true, "40bd8531e2039a2eec829da858c4ed97fb7ecce847c6d3bfb57af7b7ba4a041b"), looks := false }, kinds := [], alts := [], laidByText := true, laidKinds := [.data, .data, .data], laidTests := true, laidLooks := .later }
def CalendarBackUptoCardSaid : Prop := Claim7.holds Tryd.pinned (.plain (OpenSpec.upto calendarBackSpec)) calendarBackUptoCard

/-- THE SECOND FORM's CARD OF 'billinglaw03.CalendarCycles'. -/
def calendarCyclesUptoCard : Claim7 := { stood := { row := calendarCyclesUptoRow, standIns := [], harness := (true, "40bd8531e2039a2eec829da858c4ed97fb7ecce847c6d3bfb57af7b7ba4a041b"), looks := false }, kinds := [], alts := [], laidByText := true, laidKinds := [.data, .data, .data], laidTests := true, laidLooks := .later }
def CalendarCyclesUptoCardSaid : Prop := Claim7.holds Tryd.pinned (.plain (OpenSpec.upto calendarCyclesSpec)) calendarCyclesUptoCard

/-- THE SECOND FORM's CARD OF 'billinglaw03.CalendarTiles'. -/
def calendarTilesUptoCard : Claim7 := { stood := { row := calendarTilesUptoRow, standIns := [], harness := (true, "40bd8531e2039a2eec829da858c4ed97fb7ecce847c6d3bfb57af7b7ba4a041b"), looks := false }, kinds := [], alts := [], laidByText := true, laidKinds := [.data, .data, .data], laidTests := true, laidLooks := .later }
def CalendarTilesUptoCardSaid : Prop := Claim7.holds Tryd.pinned (.plain (OpenSpec.upto calendarTilesSpec)) calendarTilesUptoCard

/-- THE SECOND FORM's CARD OF 'billinglaw03.CalendarPrints'. -/
def calendarPrintsUptoCard : Claim7 := { stood := { row := calendarPrintsUptoRow, standIns := [], harness := (true, "40bd8531e2039a2eec829da858c4ed97fb7ecce847c6d3bfb57af7b7ba4a041b"), looks := false }, kinds := [], alts := [], laidByText := true, laidKinds := [.data, .data, .data], laidTests := true, laidLooks := .later }
def CalendarPrintsUptoCardSaid : Prop := Claim7.holds Tryd.pinned (.plain (OpenSpec.upto calendarPrintsSpec)) calendarPrintsUptoCard
end Rows
end Go.Proofs.YtigohhliblgdhaaDoor
