/-
  NARROWER THAN 'FOR EVERY INPUT', by the rows' own cells (each row's printed sentence says how): ValidateChecks: laid · ValidateAll: laid · ValidateNames: laid · ValidatePlaces: laid · ValidateFewer: laid.
  DERIVED. THE GIVEN ROWS OF THIS SEAT. 5 by the template 'for every input the law returns true; each argument reads behind the call as it read before'; 0 by the template 'total and deterministic' (their statements: YtpmcmafbfboocaaDoorTotals.lean).
  GIVEN WITH THE SEED: the statements are not yours to turn. If you find one false, say at which input.
  Laid BY PROGRAM, IN A SANDBOX (cutbox-rows.mjs): the forced cells as the released guide's own fill.sh prints them over the translation 7c27847693066e05… (all of the seat's roots in one cut). By AI agents, Wed Nov 11 2026. No macro, syntax, notation, axiom, sorry.
-/
import Derived.Test.YtpmcmafbfboocaaDoorChecked
import GoSem.Claim
import GoSem.ClaimJoined
import GoSem.ClaimMapViews
import Derived.JoinedTies
import Derived.KernelRfl
namespace Go.Proofs.YtpmcmafbfboocaaDoor
/- THE CELL 'sum', in the pinned program and in every row, IS THE sha256 OF THE DUMP (.gsa) THAT YtpmcmafbfboocaaDoorProg.lean LOADS. Nothing in Lean hashes anything: it is a label: what it is worth is what the hold of that sum in a sandbox is worth. -/
noncomputable def Tryd.pinned : Pinned := { name := "ytpmcmafbfboocaadoor", sum := "7c27847693066e0512b49c470896b743a5f22c4b61534d8badb854819deeaf39", checked := Tryd.checked }
namespace Rows
def none {H : Type} : Left H := { results := [], args := [] }

/- WHAT THE LISTED PACKAGE-LEVEL VARIABLES READ AS WHEN THE CALL BEGINS. Each datum BY PROGRAM (the guide's laid-datum.mjs) off the statement by which the dump's own 'gosem.cut.vars' lays the variable. In a bare row this is a premise. The card (YtpmcmafbfboocaaDoorCards.lean) ties it to the program's text. -/
def laid_billing_validate_kindNames {H : Type} : DataW H := .agg [.lit (.string []), .lit (.string [118, 111, 105, 99, 101]), .lit (.string [116, 101, 120, 116]), .lit (.string [100, 97, 116, 97]), .lit (.string [99, 111, 110, 116, 101, 110, 116])]

/-- 'billinglaw13.ValidateChecks': WHATEVER THE INPUT: true; the input reads as it did. -/
def validateChecksSpec : ChangeSpec := { name := "validateChecks", fn := fun _ => fun
  | [d1, d2] => { results := [.lit (.bool true)], args := [d1, d2] }
  | _ => none }
def validateChecksRow : OpenClaim := { program := "ytpmcmafbfboocaadoor", sum := "7c27847693066e0512b49c470896b743a5f22c4b61534d8badb854819deeaf39", func := "billing/billinglaw13.ValidateChecks", spec := "validateChecks", unfollowed := true, recurses := true, named := ["billing/validate.kindNames"], apart := false, laid := [("billing/validate.kindNames", laid_billing_validate_kindNames)] }
def ValidateChecksSaid : Prop := validateChecksRow.holds Tryd.pinned (OpenSpec.ofChange validateChecksSpec)

/-- ITS FALSE NEIGHBOUR: 'it returns false'. Refute it at one input. -/
def validateChecksWrong : ChangeSpec := { name := "validateChecks", fn := fun _ => fun
  | [d1, d2] => { results := [.lit (.bool false)], args := [d1, d2] }
  | _ => none }
def ValidateChecksWrongFalsely : Prop := validateChecksRow.holds Tryd.pinned (OpenSpec.ofChange validateChecksWrong)

/-- 'billinglaw13.ValidateAll': WHATEVER THE INPUT: true; the input reads as it did. -/
def validateAllSpec : ChangeSpec := { name := "validateAll", fn := fun _ => fun
  | [d1, d2] => { results := [.lit (.bool true)], args := [d1, d2] }
  | _ => none }
def validateAllRow : OpenClaim := { program := "ytpmcmafbfboocaadoor", sum := "7c27847693066e0512b49c470896b743a5f22c4b61534d8badb854819deeaf39", func := "billing/billinglaw13.ValidateAll", spec := "validateAll", unfollowed := true, recurses := true, named := ["billing/validate.kindNames"], apart := false, laid := [("billing/validate.kindNames", laid_billing_validate_kindNames)] }
def ValidateAllSaid : Prop := validateAllRow.holds Tryd.pinned (OpenSpec.ofChange validateAllSpec)

/-- ITS FALSE NEIGHBOUR: 'it returns false'. Refute it at one input. -/
def validateAllWrong : ChangeSpec := { name := "validateAll", fn := fun _ => fun
  | [d1, d2] => { results := [.lit (.bool false)], args := [d1, d2] }
  | _ => none }
def ValidateAllWrongFalsely : Prop := validateAllRow.holds Tryd.pinned (OpenSpec.ofChange validateAllWrong)

/-- 'billinglaw13.ValidateNames': WHATEVER THE INPUT: true; the input reads as it did. -/
def validateNamesSpec : ChangeSpec := { name := "validateNames", fn := fun _ => fun
  | [d1, d2] => { results := [.lit (.bool true)], args := [d1, d2] }
  | _ => none }
def validateNamesRow : OpenClaim := { program := "ytpmcmafbfboocaadoor", sum := "7c27847693066e0512b49c470896b743a5f22c4b61534d8badb854819deeaf39", func := "billing/billinglaw13.ValidateNames", spec := "validateNames", unfollowed := true, recurses := true, named := ["billing/validate.kindNames"], apart := false, laid := [("billing/validate.kindNames", laid_billing_validate_kindNames)] }
def ValidateNamesSaid : Prop := validateNamesRow.holds Tryd.pinned (OpenSpec.ofChange validateNamesSpec)

/-- ITS FALSE NEIGHBOUR: 'it returns false'. Refute it at one input. -/
def validateNamesWrong : ChangeSpec := { name := "validateNames", fn := fun _ => fun
  | [d1, d2] => { results := [.lit (.bool false)], args := [d1, d2] }
  | _ => none }
def ValidateNamesWrongFalsely : Prop := validateNamesRow.holds Tryd.pinned (OpenSpec.ofChange validateNamesWrong)

/-- 'billinglaw13.ValidatePlaces': WHATEVER THE INPUT: true; the input reads as it did. -/
def validatePlacesSpec : ChangeSpec := { name := "validatePlaces", fn := fun _ => fun
  | [d1, d2] => { results := [.lit (.bool true)], args := [d1, d2] }
  | _ => none }
def validatePlacesRow : OpenClaim := { program := "ytpmcmafbfboocaadoor", sum := "7c27847693066e0512b49c470896b743a5f22c4b61534d8badb854819deeaf39", func := "billing/billinglaw13.ValidatePlaces", spec := "validatePlaces", unfollowed := true, recurses := true, named := ["billing/validate.kindNames"], apart := false, laid := [("billing/validate.kindNames", laid_billing_validate_kindNames)] }
def ValidatePlacesSaid : Prop := validatePlacesRow.holds Tryd.pinned (OpenSpec.ofChange validatePlacesSpec)

/-- ITS FALSE NEIGHBOUR: 'it returns false'. Refute it at one input. -/
def validatePlacesWrong : ChangeSpec := { name := "validatePlaces", fn := fun _ => fun
  | [d1, d2] => { results := [.lit (.bool false)], args := [d1, d2] }
  | _ => none }
def ValidatePlacesWrongFalsely : Prop := validatePlacesRow.holds Tryd.pinned (OpenSpec.ofChange validatePlacesWrong)

/-- 'billinglaw13.ValidateFewer': WHATEVER THE INPUT: true; the input reads as it did. -/
def validateFewerSpec : ChangeSpec := { name := "validateFewer", fn := fun _ => fun
  | [d1, d2, d3] => { results := [.lit (.bool true)], args := [d1, d2, d3] }
  | _ => none }
def validateFewerRow : OpenClaim := { program := "ytpmcmafbfboocaadoor", sum := "7c27847693066e0512b49c470896b743a5f22c4b61534d8badb854819deeaf39", func := "billing/billinglaw13.ValidateFewer", spec := "validateFewer", unfollowed := true, recurses := true, named := ["billing/validate.kindNames"], apart := false, laid := [("billing/validate.kindNames", laid_billing_validate_kindNames)] }
def ValidateFewerSaid : Prop := validateFewerRow.holds Tryd.pinned (OpenSpec.ofChange validateFewerSpec)

/-- ITS FALSE NEIGHBOUR: 'it returns false'. Refute it at one input. -/
def validateFewerWrong : ChangeSpec := { name := "validateFewer", fn := fun _ => fun
  | [d1, d2, d3] => { results := [.lit (.bool false)], args := [d1, d2, d3] }
  | _ => none }
def ValidateFewerWrongFalsely : Prop := validateFewerRow.holds Tryd.pinned (OpenSpec.ofChange validateFewerWrong)

/- THE SECOND FORM. 'bulk': how many values and letters a reading holds, each counted each time it is reached (what is shared counts as often as it is met; a slice's spare places count too). A statement '..UptoSaid' is the law's where the arguments, and the package variables that the reading takes, are together of bulk at most 1048576: NARROWER than '..Said'. Prove '..Said' where nothing that the law and all that it calls make is longer than what came in: it says more and counts as full. Else prove '..UptoSaid'. A law counts once. -/
mutual
def uptoBulk {H : Type} : DataW H → Nat
  | .lit (.string bytes) => bytes.length + 1
  | .lit _ => 1
  | .nil => 1
  | .ptr d => uptoBulk d + 1
  | .slice elems spare => uptoBulkAll elems + uptoBulkAll spare + 1
  | .agg parts => uptoBulkAll parts + 1
  | .iface _ d => uptoBulk d + 1
  | .map entries => uptoBulkEntries entries + 1
  | .held _ => 1
def uptoBulkAll {H : Type} : List (DataW H) → Nat
  | [] => 0
  | d :: r => uptoBulk d + uptoBulkAll r
def uptoBulkEntries {H : Type} : List (Lit × DataW H) → Nat
  | [] => 0
  | x :: r => uptoBulkEntry x + uptoBulkEntries r
def uptoBulkEntry {H : Type} : Lit × DataW H → Nat
  | (.string bytes, d) => bytes.length + uptoBulk d + 1
  | (_, d) => uptoBulk d + 1
 end
def uptoSmall : (H : Type) → List (DataW H) → Bool := fun _ ds => decide (uptoBulkAll ds ≤ 1048576)
def OpenSpec.upto (s : _root_.Go.ChangeSpec) : _root_.Go.OpenSpec := { _root_.Go.OpenSpec.ofChange s with cond := some uptoSmall }

/-- 'billinglaw13.ValidateChecks', WHERE WHAT IT READS IS OF BULK AT MOST 1048576: true; the input reads as it did. -/
def validateChecksUptoRow : OpenClaim := { program := "ytpmcmafbfboocaadoor", sum := "7c27847693066e0512b49c470896b743a5f22c4b61534d8badb854819deeaf39", func := "billing/billinglaw13.ValidateChecks", spec := "validateChecks", unfollowed := true, recurses := true, named := ["billing/validate.kindNames"], apart := false, laid := [("billing/validate.kindNames", laid_billing_validate_kindNames)], narrowed := true }
def ValidateChecksUptoSaid : Prop := validateChecksUptoRow.holds Tryd.pinned (OpenSpec.upto validateChecksSpec)

/-- 'billinglaw13.ValidateAll', WHERE WHAT IT READS IS OF BULK AT MOST 1048576: true; the input reads as it did. -/
def validateAllUptoRow : OpenClaim := { program := "ytpmcmafbfboocaadoor", sum := "7c27847693066e0512b49c470896b743a5f22c4b61534d8badb854819deeaf39", func := "billing/billinglaw13.ValidateAll", spec := "validateAll", unfollowed := true, recurses := true, named := ["billing/validate.kindNames"], apart := false, laid := [("billing/validate.kindNames", laid_billing_validate_kindNames)], narrowed := true }
def ValidateAllUptoSaid : Prop := validateAllUptoRow.holds Tryd.pinned (OpenSpec.upto validateAllSpec)

/-- 'billinglaw13.ValidateNames', WHERE WHAT IT READS IS OF BULK AT MOST 1048576: true; the input reads as it did. -/
def validateNamesUptoRow : OpenClaim := { program := "ytpmcmafbfboocaadoor", sum := "7c27847693066e0512b49c470896b743a5f22c4b61534d8badb854819deeaf39", func := "billing/billinglaw13.ValidateNames", spec := "validateNames", unfollowed := true, recurses := true, named := ["billing/validate.kindNames"], apart := false, laid := [("billing/validate.kindNames", laid_billing_validate_kindNames)], narrowed := true }
def ValidateNamesUptoSaid : Prop := validateNamesUptoRow.holds Tryd.pinned (OpenSpec.upto validateNamesSpec)

/-- 'billinglaw13.ValidatePlaces', WHERE WHAT IT READS IS OF BULK AT MOST 1048576: true; the input reads as it did. -/
def validatePlacesUptoRow : OpenClaim := { program := "ytpmcmafbfboocaadoor", sum := "7c27847693066e0512b49c470896b743a5f22c4b61534d8badb854819deeaf39", func := "billing/billinglaw13.ValidatePlaces", spec := "validatePlaces", unfollowed := true, recurses := true, named := ["billing/validate.kindNames"], apart := false, laid := [("billing/validate.kindNames", laid_billing_validate_kindNames)], narrowed := true }
def ValidatePlacesUptoSaid : Prop := validatePlacesUptoRow.holds Tryd.pinned (OpenSpec.upto validatePlacesSpec)

/-- 'billinglaw13.ValidateFewer', WHERE WHAT IT READS IS OF BULK AT MOST 1048576: true; the input reads as it did. -/
def validateFewerUptoRow : OpenClaim := { program := "ytpmcmafbfboocaadoor", sum := "7c27847693066e0512b49c470896b743a5f22c4b61534d8badb854819deeaf39", func := "billing/billinglaw13.ValidateFewer", spec := "validateFewer", unfollowed := true, recurses := true, named := ["billing/validate.kindNames"], apart := false, laid := [("billing/validate.kindNames", laid_billing_validate_kindNames)], narrowed := true }
def ValidateFewerUptoSaid : Prop := validateFewerUptoRow.holds Tryd.pinned (OpenSpec.upto validateFewerSpec)

end Rows
end Go.Proofs.YtpmcmafbfboocaaDoor
