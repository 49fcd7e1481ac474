/-
  DERIVED. GIVEN WITH THE SEED: THE CARDS: each row of YtpmcmafbfboocaaDoorRows.lean that lists a variable, with what it lists TIED to the program's text (the seventh form; the later family's looks); each row that meets fmt, with fmt's text TOLD by the authors' own Lean function (tested against real Go, not proved from fmt's source: count such statements apart). THE CARD IS WHAT COUNTS. Prove the row's statement (the work); the ties are given (YtpmcmafbfboocaaDoorTie.lean); close each card by the builder's one call (the guide's Derived/Test/ToyasCard.lean, 'card_holds'). Laid BY PROGRAM, IN A SANDBOX (cutbox-door.mjs). By AI agents, Wed Nov 11 2026. No macro, syntax, notation, axiom, sorry.
-/
import Derived.Test.YtpmcmafbfboocaaDoorRows
import GoSem.ClaimSeven
namespace Go.Proofs.YtpmcmafbfboocaaDoor
namespace Rows

/-- THE TIED CARD OF 'billinglaw13.ValidateChecks'. -/
def validateChecksCard : Claim7 := { stood := { row := validateChecksRow, standIns := [], harness := (true, "1e400fa52d4c698088591a20d8a5b06ea88b27e83edb1569c35e7ccebd3ca401"), looks := false }, kinds := [], alts := [], laidByText := true, laidKinds := [.data], laidTests := true, laidLooks := .later }
def ValidateChecksCardSaid : Prop := Claim7.holds Tryd.pinned (.plain (OpenSpec.ofChange validateChecksSpec)) validateChecksCard

/-- THE TIED CARD OF 'billinglaw13.ValidateAll'. -/
def validateAllCard : Claim7 := { stood := { row := validateAllRow, standIns := [], harness := (true, "1e400fa52d4c698088591a20d8a5b06ea88b27e83edb1569c35e7ccebd3ca401"), looks := false }, kinds := [], alts := [], laidByText := true, laidKinds := [.data], laidTests := true, laidLooks := .later }
def ValidateAllCardSaid : Prop := Claim7.holds Tryd.pinned (.plain (OpenSpec.ofChange validateAllSpec)) validateAllCard

/-- THE TIED CARD OF 'billinglaw13.ValidateNames'. -/
def validateNamesCard : Claim7 := { stood := { row := validateNamesRow, standIns := [], harness := (true, "1e400fa52d4c698088591a20d8a5b06ea88b27e83edb1569c35e7ccebd3ca401"), looks := false }, kinds := [], alts := [], laidByText := true, laidKinds := [.data], laidTests := true, laidLooks := .later }
def ValidateNamesCardSaid : Prop := Claim7.holds Tryd.pinned (.plain (OpenSpec.ofChange validateNamesSpec)) validateNamesCard

/-- THE TIED CARD OF 'billinglaw13.ValidatePlaces'. -/
def validatePlacesCard : Claim7 := { stood := { row := validatePlacesRow, standIns := [], harness := (true, "1e400fa52d4c698088591a20d8a5b06ea88b27e83edb1569c35e7ccebd3ca401"), looks := false }, kinds := [], alts := [], laidByText := true, laidKinds := [.data], laidTests := true, laidLooks := .later }
def ValidatePlacesCardSaid : Prop := Claim7.holds Tryd.pinned (.plain (OpenSpec.ofChange validatePlacesSpec)) validatePlacesCard

/-- THE TIED CARD OF 'billinglaw13.ValidateFewer'. -/
def validateFewerCard : Claim7 := { stood := { row := validateFewerRow, standIns := [], harness := (true, "1e400fa52d4c698088591a20d8a5b06ea88b27e83edb1569c35e7ccebd3ca401"), looks := false }, kinds := [], alts := [], laidByText := true, laidKinds := [.data], laidTests := true, laidLooks := .later }
def ValidateFewerCardSaid : Prop := Claim7.holds Tryd.pinned (.plain (OpenSpec.ofChange validateFewerSpec)) validateFewerCard

/-- THE SECOND FORM's CARD OF 'billinglaw13.ValidateChecks'. -/
def validateChecksUptoCard : Claim7 := { stood := { row := validateChecksUptoRow, standIns := [], harness := (true, "1e400fa52d4c698088591a20d8a5b06ea88b27e83edb1569c35e7ccebd3ca401"), looks := false }, kinds := [], alts := [], laidByText := true, laidKinds := [.data], laidTests := true, laidLooks := .later }
def ValidateChecksUptoCardSaid : Prop := Claim7.holds Tryd.pinned (.plain (OpenSpec.upto validateChecksSpec)) validateChecksUptoCard

/-- THE SECOND FORM's CARD OF 'billinglaw13.ValidateAll'. -/
def validateAllUptoCard : Claim7 := { stood := { row := validateAllUptoRow, standIns := [], harness := (true, "1e400fa52d4c698088591a20d8a5b06ea88b27e83edb1569c35e7ccebd3ca401"), looks := false }, kinds := [], alts := [], laidByText := true, laidKinds := [.data], laidTests := true, laidLooks := .later }
def ValidateAllUptoCardSaid : Prop := Claim7.holds Tryd.pinned (.plain (OpenSpec.upto validateAllSpec)) validateAllUptoCard

/-- THE SECOND FORM's CARD OF 'billinglaw13.ValidateNames'. -/
def validateNamesUptoCard : Claim7 := { stood := { row := validateNamesUptoRow, standIns := [], harness := (true, "1e400fa52d4c698088591a20d8a5b06ea88b27e83edb1569c35e7ccebd3ca401"), looks := false }, kinds := [], alts := [], laidByText := true, laidKinds := [.data], laidTests := true, laidLooks := .later }
def ValidateNamesUptoCardSaid : Prop := Claim7.holds Tryd.pinned (.plain (OpenSpec.upto validateNamesSpec)) validateNamesUptoCard

/-- THE SECOND FORM's CARD OF 'billinglaw13.ValidatePlaces'. -/
def validatePlacesUptoCard : Claim7 := { stood := { row := validatePlacesUptoRow, standIns := [], harness := (true, "1e400fa52d4c698088591a20d8a5b06ea88b27e83edb1569c35e7ccebd3ca401"), looks := false }, kinds := [], alts := [], laidByText := true, laidKinds := [.data], laidTests := true, laidLooks := .later }
def ValidatePlacesUptoCardSaid : Prop := Claim7.holds Tryd.pinned (.plain (OpenSpec.upto validatePlacesSpec)) validatePlacesUptoCard

/-- THE SECOND FORM's CARD OF 'billinglaw13.ValidateFewer'. -/
def validateFewerUptoCard : Claim7 := { stood := { row := validateFewerUptoRow, standIns := [], harness := (true, "1e400fa52d4c698088591a20d8a5b06ea88b27e83edb1569c35e7ccebd3ca401"), looks := false }, kinds := [], alts := [], laidByText := true, laidKinds := [.data], laidTests := true, laidLooks := .later }
def ValidateFewerUptoCardSaid : Prop := Claim7.holds Tryd.pinned (.plain (OpenSpec.upto validateFewerSpec)) validateFewerUptoCard
end Rows
end Go.Proofs.YtpmcmafbfboocaaDoor
