/-
  No cell of these rows narrows 'for every input' (looked for: loops, veiled, ifaces, maps, wideKeys, modest, calm, conditions, laid).
  DERIVED. THE GIVEN ROWS OF THIS SEAT. 5 by the template 'for every input the law returns true; each argument reads behind the call as it read before'; 0 by the template 'total and deterministic' (their statements: YthjckkcafhiomaaTotals.lean).
  GIVEN WITH THE SEED: the statements are not yours to turn. If you find one false, say at which input.
  Laid BY PROGRAM, IN A SANDBOX (cutbox-rows.mjs): the forced cells as the released guide's own fill.sh prints them over the translation 5725433e9079c25e… (all of the seat's roots in one cut). By AI agents, Wed Nov 11 2026. No macro, syntax, notation, axiom, sorry.
-/
import Derived.Test.YthjckkcafhiomaaChecked
import GoSem.Claim
import GoSem.ClaimJoined
import GoSem.ClaimMapViews
import Derived.JoinedTies
import Derived.KernelRfl
namespace Go.Proofs.Ythjckkcafhiomaa
/- THE CELL 'sum', in the pinned program and in every row, IS THE sha256 OF THE DUMP (.gsa) THAT YthjckkcafhiomaaProg.lean LOADS. Nothing in Lean hashes anything: it is a label: what it is worth is what the hold of that sum in a sandbox is worth. -/
noncomputable def Try.pinned : Pinned := { name := "ythjckkcafhiomaa", sum := "5725433e9079c25e6ff83415c4932596839f49476e81ed505493a325082b0cf7", checked := Try.checked }
namespace Rows
def none {H : Type} : Left H := { results := [], args := [] }

/-- 'billinglaw19.ProductChecks': WHATEVER THE INPUT: true; the input reads as it did. -/
def productChecksSpec : ChangeSpec := { name := "productChecks", fn := fun _ => fun
  | [d] => { results := [.lit (.bool true)], args := [d] }
  | _ => none }
def productChecksRow : OpenClaim := { program := "ythjckkcafhiomaa", sum := "5725433e9079c25e6ff83415c4932596839f49476e81ed505493a325082b0cf7", func := "billing/billinglaw19.ProductChecks", spec := "productChecks", unfollowed := true, recurses := true, apart := false }
def ProductChecksSaid : Prop := productChecksRow.holds Try.pinned (OpenSpec.ofChange productChecksSpec)

/-- ITS FALSE NEIGHBOUR: 'it returns false'. Refute it at one input. -/
def productChecksWrong : ChangeSpec := { name := "productChecks", fn := fun _ => fun
  | [d] => { results := [.lit (.bool false)], args := [d] }
  | _ => none }
def ProductChecksWrongFalsely : Prop := productChecksRow.holds Try.pinned (OpenSpec.ofChange productChecksWrong)

/-- 'billinglaw19.ProductAt': WHATEVER THE INPUT: true; the input reads as it did. -/
def productAtSpec : ChangeSpec := { name := "productAt", fn := fun _ => fun
  | [d1, d2, d3] => { results := [.lit (.bool true)], args := [d1, d2, d3] }
  | _ => none }
def productAtRow : OpenClaim := { program := "ythjckkcafhiomaa", sum := "5725433e9079c25e6ff83415c4932596839f49476e81ed505493a325082b0cf7", func := "billing/billinglaw19.ProductAt", spec := "productAt", unfollowed := true, recurses := true, apart := false }
def ProductAtSaid : Prop := productAtRow.holds Try.pinned (OpenSpec.ofChange productAtSpec)

/-- ITS FALSE NEIGHBOUR: 'it returns false'. Refute it at one input. -/
def productAtWrong : ChangeSpec := { name := "productAt", fn := fun _ => fun
  | [d1, d2, d3] => { results := [.lit (.bool false)], args := [d1, d2, d3] }
  | _ => none }
def ProductAtWrongFalsely : Prop := productAtRow.holds Try.pinned (OpenSpec.ofChange productAtWrong)

/-- 'billinglaw19.ProductFees': WHATEVER THE INPUT: true; the input reads as it did. -/
def productFeesSpec : ChangeSpec := { name := "productFees", fn := fun _ => fun
  | [d1, d2, d3] => { results := [.lit (.bool true)], args := [d1, d2, d3] }
  | _ => none }
def productFeesRow : OpenClaim := { program := "ythjckkcafhiomaa", sum := "5725433e9079c25e6ff83415c4932596839f49476e81ed505493a325082b0cf7", func := "billing/billinglaw19.ProductFees", spec := "productFees", unfollowed := true, recurses := true, apart := false }
def ProductFeesSaid : Prop := productFeesRow.holds Try.pinned (OpenSpec.ofChange productFeesSpec)

/-- ITS FALSE NEIGHBOUR: 'it returns false'. Refute it at one input. -/
def productFeesWrong : ChangeSpec := { name := "productFees", fn := fun _ => fun
  | [d1, d2, d3] => { results := [.lit (.bool false)], args := [d1, d2, d3] }
  | _ => none }
def ProductFeesWrongFalsely : Prop := productFeesRow.holds Try.pinned (OpenSpec.ofChange productFeesWrong)

/-- 'billinglaw19.ProductCovers': WHATEVER THE INPUT: true; the input reads as it did. -/
def productCoversSpec : ChangeSpec := { name := "productCovers", fn := fun _ => fun
  | [d1, d2, d3] => { results := [.lit (.bool true)], args := [d1, d2, d3] }
  | _ => none }
def productCoversRow : OpenClaim := { program := "ythjckkcafhiomaa", sum := "5725433e9079c25e6ff83415c4932596839f49476e81ed505493a325082b0cf7", func := "billing/billinglaw19.ProductCovers", spec := "productCovers", unfollowed := true, recurses := true, apart := false }
def ProductCoversSaid : Prop := productCoversRow.holds Try.pinned (OpenSpec.ofChange productCoversSpec)

/-- ITS FALSE NEIGHBOUR: 'it returns false'. Refute it at one input. -/
def productCoversWrong : ChangeSpec := { name := "productCovers", fn := fun _ => fun
  | [d1, d2, d3] => { results := [.lit (.bool false)], args := [d1, d2, d3] }
  | _ => none }
def ProductCoversWrongFalsely : Prop := productCoversRow.holds Try.pinned (OpenSpec.ofChange productCoversWrong)

/-- 'billinglaw19.ProductNames': WHATEVER THE INPUT: true; the input reads as it did. -/
def productNamesSpec : ChangeSpec := { name := "productNames", fn := fun _ => fun
  | [d1, d2] => { results := [.lit (.bool true)], args := [d1, d2] }
  | _ => none }
def productNamesRow : OpenClaim := { program := "ythjckkcafhiomaa", sum := "5725433e9079c25e6ff83415c4932596839f49476e81ed505493a325082b0cf7", func := "billing/billinglaw19.ProductNames", spec := "productNames", unfollowed := true, recurses := true, apart := false }
def ProductNamesSaid : Prop := productNamesRow.holds Try.pinned (OpenSpec.ofChange productNamesSpec)

/-- ITS FALSE NEIGHBOUR: 'it returns false'. Refute it at one input. -/
def productNamesWrong : ChangeSpec := { name := "productNames", fn := fun _ => fun
  | [d1, d2] => { results := [.lit (.bool false)], args := [d1, d2] }
  | _ => none }
def ProductNamesWrongFalsely : Prop := productNamesRow.holds Try.pinned (OpenSpec.ofChange productNamesWrong)

/- THE SECOND FORM. 'bulk': how many values and letters a reading holds, each counted each time it is reached (what is shared counts as often as it is met; a slice's spare places count too). A statement '..UptoSaid' is the law's where the arguments, and the package variables that the reading takes, are together of bulk at most 1048576: NARROWER than '..Said'. Prove '..Said' where nothing that the law and all that it calls make is longer than what came in: it says more and counts as full. Else prove '..UptoSaid'. A law counts once. -/
mutual
def uptoBulk {H : Type} : DataW H → Nat
  | .lit (.string bytes) => bytes.length + 1
  | .lit _ => 1
  | .nil => 1
  | .ptr d => uptoBulk d + 1
  | .slice elems spare => uptoBulkAll elems + uptoBulkAll spare + 1
  | .agg parts => uptoBulkAll parts + 1
  | .iface _ d => uptoBulk d + 1
  | .map entries => uptoBulkEntries entries + 1
  | .held _ => 1
def uptoBulkAll {H : Type} : List (DataW H) → Nat
  | [] => 0
  | d :: r => uptoBulk d + uptoBulkAll r
def uptoBulkEntries {H : Type} : List (Lit × DataW H) → Nat
  | [] => 0
  | x :: r => uptoBulkEntry x + uptoBulkEntries r
def uptoBulkEntry {H : Type} : Lit × DataW H → Nat
  | (.string bytes, d) => bytes.length + uptoBulk d + 1
  | (_, d) => uptoBulk d + 1
 end
def uptoSmall : (H : Type) → List (DataW H) → Bool := fun _ ds => decide (uptoBulkAll ds ≤ 1048576)
def OpenSpec.upto (s : _root_.Go.ChangeSpec) : _root_.Go.OpenSpec := { _root_.Go.OpenSpec.ofChange s with cond := some uptoSmall }

/-- 'billinglaw19.ProductChecks', WHERE WHAT IT READS IS OF BULK AT MOST 1048576: true; the input reads as it did. -/
def productChecksUptoRow : OpenClaim := { program := "ythjckkcafhiomaa", sum := "5725433e9079c25e6ff83415c4932596839f49476e81ed505493a325082b0cf7", func := "billing/billinglaw19.ProductChecks", spec := "productChecks", unfollowed := true, recurses := true, apart := false, narrowed := true }
def ProductChecksUptoSaid : Prop := productChecksUptoRow.holds Try.pinned (OpenSpec.upto productChecksSpec)

/-- 'billinglaw19.ProductAt', WHERE WHAT IT READS IS OF BULK AT MOST 1048576: true; the input reads as it did. -/
def productAtUptoRow : OpenClaim := { program := "ythjckkcafhiomaa", sum := "5725433e9079c25e6ff83415c4932596839f49476e81ed505493a325082b0cf7", func := "billing/billinglaw19.ProductAt", spec := "productAt", unfollowed := true, recurses := true, apart := false, narrowed := true }
def ProductAtUptoSaid : Prop := productAtUptoRow.holds Try.pinned (OpenSpec.upto productAtSpec)

/-- 'billinglaw19.ProductFees', WHERE WHAT IT READS IS OF BULK AT MOST 1048576: true; the input reads as it did. -/
def productFeesUptoRow : OpenClaim := { program := "ythjckkcafhiomaa", sum := "5725433e9079c25e6ff83415c4932596839f49476e81ed505493a325082b0cf7", func := "billing/billinglaw19.ProductFees", spec := "productFees", unfollowed := true, recurses := true, apart := false, narrowed := true }
def ProductFeesUptoSaid : Prop := productFeesUptoRow.holds Try.pinned (OpenSpec.upto productFeesSpec)

/-- 'billinglaw19.ProductCovers', WHERE WHAT IT READS IS OF BULK AT MOST 1048576: true; the input reads as it did. -/
def productCoversUptoRow : OpenClaim := { program := "ythjckkcafhiomaa", sum := "5725433e9079c25e6ff83415c4932596839f49476e81ed505493a325082b0cf7", func := "billing/billinglaw19.ProductCovers", spec := "productCovers", unfollowed := true, recurses := true, apart := false, narrowed := true }
def ProductCoversUptoSaid : Prop := productCoversUptoRow.holds Try.pinned (OpenSpec.upto productCoversSpec)

/-- 'billinglaw19.ProductNames', WHERE WHAT IT READS IS OF BULK AT MOST 1048576: true; the input reads as it did. -/
def productNamesUptoRow : OpenClaim := { program := "ythjckkcafhiomaa", sum := "5725433e9079c25e6ff83415c4932596839f49476e81ed505493a325082b0cf7", func := "billing/billinglaw19.ProductNames", spec := "productNames", unfollowed := true, recurses := true, apart := false, narrowed := true }
def ProductNamesUptoSaid : Prop := productNamesUptoRow.holds Try.pinned (OpenSpec.upto productNamesSpec)

end Rows
end Go.Proofs.Ythjckkcafhiomaa
