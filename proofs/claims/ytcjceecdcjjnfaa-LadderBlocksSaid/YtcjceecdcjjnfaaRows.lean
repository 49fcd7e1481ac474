/-
  No cell of these rows narrows 'for every input' (looked for: loops, veiled, ifaces, maps, wideKeys, modest, calm, conditions, laid).
  DERIVED. THE GIVEN ROWS OF THIS SEAT. 6 by the template 'for every input the law returns true; each argument reads behind the call as it read before'; 0 by the template 'total and deterministic' (their statements: YtcjceecdcjjnfaaTotals.lean).
  GIVEN WITH THE SEED: the statements are not yours to turn. If you find one false, say at which input.
  Laid BY PROGRAM, IN A SANDBOX (cutbox-rows.mjs): the forced cells as the released guide's own fill.sh prints them over the translation 98696752b57e7cd5… (all of the seat's roots in one cut). By AI agents, Wed Nov 11 2026. No macro, syntax, notation, axiom, sorry.
-/
import Derived.Test.YtcjceecdcjjnfaaChecked
import GoSem.Claim
import GoSem.ClaimJoined
import GoSem.ClaimMapViews
import Derived.JoinedTies
import Derived.KernelRfl
namespace Go.Proofs.Ytcjceecdcjjnfaa
/- THE CELL 'sum', in the pinned program and in every row, IS THE sha256 OF THE DUMP (.gsa) THAT YtcjceecdcjjnfaaProg.lean LOADS. Nothing in Lean hashes anything: it is a label: what it is worth is what the hold of that sum in a sandbox is worth. -/
noncomputable def Try.pinned : Pinned := { name := "ytcjceecdcjjnfaa", sum := "98696752b57e7cd5a8eb1ced9d3c2ab5ba26880177cabc8a05fd35fb8c0dfc7e", checked := Try.checked }
namespace Rows
def none {H : Type} : Left H := { results := [], args := [] }

/-- 'billinglaw29.LadderPrices': WHATEVER THE INPUT: true; the input reads as it did. -/
def ladderPricesSpec : ChangeSpec := { name := "ladderPrices", fn := fun _ => fun
  | [d1, d2] => { results := [.lit (.bool true)], args := [d1, d2] }
  | _ => none }
def ladderPricesRow : OpenClaim := { program := "ytcjceecdcjjnfaa", sum := "98696752b57e7cd5a8eb1ced9d3c2ab5ba26880177cabc8a05fd35fb8c0dfc7e", func := "billing/billinglaw29.LadderPrices", spec := "ladderPrices", unfollowed := true, recurses := true, named := ["math/bits.divideError", "math/bits.overflowError"], apart := false }
def LadderPricesSaid : Prop := ladderPricesRow.holds Try.pinned (OpenSpec.ofChange ladderPricesSpec)

/-- ITS FALSE NEIGHBOUR: 'it returns false'. Refute it at one input. -/
def ladderPricesWrong : ChangeSpec := { name := "ladderPrices", fn := fun _ => fun
  | [d1, d2] => { results := [.lit (.bool false)], args := [d1, d2] }
  | _ => none }
def LadderPricesWrongFalsely : Prop := ladderPricesRow.holds Try.pinned (OpenSpec.ofChange ladderPricesWrong)

/-- 'billinglaw29.LadderBetween': WHATEVER THE INPUT: true; the input reads as it did. -/
def ladderBetweenSpec : ChangeSpec := { name := "ladderBetween", fn := fun _ => fun
  | [d1, d2, d3] => { results := [.lit (.bool true)], args := [d1, d2, d3] }
  | _ => none }
def ladderBetweenRow : OpenClaim := { program := "ytcjceecdcjjnfaa", sum := "98696752b57e7cd5a8eb1ced9d3c2ab5ba26880177cabc8a05fd35fb8c0dfc7e", func := "billing/billinglaw29.LadderBetween", spec := "ladderBetween", unfollowed := true, recurses := true, named := ["math/bits.divideError", "math/bits.overflowError"], apart := false }
def LadderBetweenSaid : Prop := ladderBetweenRow.holds Try.pinned (OpenSpec.ofChange ladderBetweenSpec)

/-- ITS FALSE NEIGHBOUR: 'it returns false'. Refute it at one input. -/
def ladderBetweenWrong : ChangeSpec := { name := "ladderBetween", fn := fun _ => fun
  | [d1, d2, d3] => { results := [.lit (.bool false)], args := [d1, d2, d3] }
  | _ => none }
def LadderBetweenWrongFalsely : Prop := ladderBetweenRow.holds Try.pinned (OpenSpec.ofChange ladderBetweenWrong)

/-- 'billinglaw29.LadderUnits': WHATEVER THE INPUT: true; the input reads as it did. -/
def ladderUnitsSpec : ChangeSpec := { name := "ladderUnits", fn := fun _ => fun
  | [d1, d2, d3] => { results := [.lit (.bool true)], args := [d1, d2, d3] }
  | _ => none }
def ladderUnitsRow : OpenClaim := { program := "ytcjceecdcjjnfaa", sum := "98696752b57e7cd5a8eb1ced9d3c2ab5ba26880177cabc8a05fd35fb8c0dfc7e", func := "billing/billinglaw29.LadderUnits", spec := "ladderUnits", unfollowed := true, recurses := true, named := ["math/bits.divideError", "math/bits.overflowError"], apart := false }
def LadderUnitsSaid : Prop := ladderUnitsRow.holds Try.pinned (OpenSpec.ofChange ladderUnitsSpec)

/-- ITS FALSE NEIGHBOUR: 'it returns false'. Refute it at one input. -/
def ladderUnitsWrong : ChangeSpec := { name := "ladderUnits", fn := fun _ => fun
  | [d1, d2, d3] => { results := [.lit (.bool false)], args := [d1, d2, d3] }
  | _ => none }
def LadderUnitsWrongFalsely : Prop := ladderUnitsRow.holds Try.pinned (OpenSpec.ofChange ladderUnitsWrong)

/-- 'billinglaw29.LadderInverse': WHATEVER THE INPUT: true; the input reads as it did. -/
def ladderInverseSpec : ChangeSpec := { name := "ladderInverse", fn := fun _ => fun
  | [d1, d2, d3] => { results := [.lit (.bool true)], args := [d1, d2, d3] }
  | _ => none }
def ladderInverseRow : OpenClaim := { program := "ytcjceecdcjjnfaa", sum := "98696752b57e7cd5a8eb1ced9d3c2ab5ba26880177cabc8a05fd35fb8c0dfc7e", func := "billing/billinglaw29.LadderInverse", spec := "ladderInverse", unfollowed := true, recurses := true, named := ["math/bits.divideError", "math/bits.overflowError"], apart := false }
def LadderInverseSaid : Prop := ladderInverseRow.holds Try.pinned (OpenSpec.ofChange ladderInverseSpec)

/-- ITS FALSE NEIGHBOUR: 'it returns false'. Refute it at one input. -/
def ladderInverseWrong : ChangeSpec := { name := "ladderInverse", fn := fun _ => fun
  | [d1, d2, d3] => { results := [.lit (.bool false)], args := [d1, d2, d3] }
  | _ => none }
def LadderInverseWrongFalsely : Prop := ladderInverseRow.holds Try.pinned (OpenSpec.ofChange ladderInverseWrong)

/-- 'billinglaw29.LadderParts': WHATEVER THE INPUT: true; the input reads as it did. -/
def ladderPartsSpec : ChangeSpec := { name := "ladderParts", fn := fun _ => fun
  | [d1, d2, d3] => { results := [.lit (.bool true)], args := [d1, d2, d3] }
  | _ => none }
def ladderPartsRow : OpenClaim := { program := "ytcjceecdcjjnfaa", sum := "98696752b57e7cd5a8eb1ced9d3c2ab5ba26880177cabc8a05fd35fb8c0dfc7e", func := "billing/billinglaw29.LadderParts", spec := "ladderParts", unfollowed := true, recurses := true, named := ["math/bits.divideError", "math/bits.overflowError"], apart := false }
def LadderPartsSaid : Prop := ladderPartsRow.holds Try.pinned (OpenSpec.ofChange ladderPartsSpec)

/-- ITS FALSE NEIGHBOUR: 'it returns false'. Refute it at one input. -/
def ladderPartsWrong : ChangeSpec := { name := "ladderParts", fn := fun _ => fun
  | [d1, d2, d3] => { results := [.lit (.bool false)], args := [d1, d2, d3] }
  | _ => none }
def LadderPartsWrongFalsely : Prop := ladderPartsRow.holds Try.pinned (OpenSpec.ofChange ladderPartsWrong)

/-- 'billinglaw29.LadderBlocks': WHATEVER THE INPUT: true; the input reads as it did. -/
def ladderBlocksSpec : ChangeSpec := { name := "ladderBlocks", fn := fun _ => fun
  | [d1, d2, d3] => { results := [.lit (.bool true)], args := [d1, d2, d3] }
  | _ => none }
def ladderBlocksRow : OpenClaim := { program := "ytcjceecdcjjnfaa", sum := "98696752b57e7cd5a8eb1ced9d3c2ab5ba26880177cabc8a05fd35fb8c0dfc7e", func := "billing/billinglaw29.LadderBlocks", spec := "ladderBlocks", unfollowed := true, recurses := true, named := ["math/bits.divideError", "math/bits.overflowError"], apart := false }
def LadderBlocksSaid : Prop := ladderBlocksRow.holds Try.pinned (OpenSpec.ofChange ladderBlocksSpec)

/-- ITS FALSE NEIGHBOUR: 'it returns false'. Refute it at one input. -/
def ladderBlocksWrong : ChangeSpec := { name := "ladderBlocks", fn := fun _ => fun
  | [d1, d2, d3] => { results := [.lit (.bool false)], args := [d1, d2, d3] }
  | _ => none }
def LadderBlocksWrongFalsely : Prop := ladderBlocksRow.holds Try.pinned (OpenSpec.ofChange ladderBlocksWrong)

/- THE SECOND FORM. 'bulk': how many values and letters a reading holds, each counted each time it is reached (what is shared counts as often as it is met; a slice's spare places count too). A statement '..UptoSaid' is the law's where the arguments, and the package variables that the reading takes, are together of bulk at most 1048576: NARROWER than '..Said'. Prove '..Said' where nothing that the law and all that it calls make is longer than what came in: it says more and counts as full. Else prove '..UptoSaid'. A law counts once. -/
mutual
def uptoBulk {H : Type} : DataW H → Nat
  | .lit (.string bytes) => bytes.length + 1
  | .lit _ => 1
  | .nil => 1
  | .ptr d => uptoBulk d + 1
  | .slice elems spare => uptoBulkAll elems + uptoBulkAll spare + 1
  | .agg parts => uptoBulkAll parts + 1
  | .iface _ d => uptoBulk d + 1
  | .map entries => uptoBulkEntries entries + 1
  | .held _ => 1
def uptoBulkAll {H : Type} : List (DataW H) → Nat
  | [] => 0
  | d :: r => uptoBulk d + uptoBulkAll r
def uptoBulkEntries {H : Type} : List (Lit × DataW H) → Nat
  | [] => 0
  | x :: r => uptoBulkEntry x + uptoBulkEntries r
def uptoBulkEntry {H : Type} : Lit × DataW H → Nat
  | (.string bytes, d) => bytes.length + uptoBulk d + 1
  | (_, d) => uptoBulk d + 1
 end
def uptoSmall : (H : Type) → List (DataW H) → Bool := fun _ ds => decide (uptoBulkAll ds ≤ 1048576)
def OpenSpec.upto (s : _root_.Go.ChangeSpec) : _root_.Go.OpenSpec := { _root_.Go.OpenSpec.ofChange s with cond := some uptoSmall }

/-- 'billinglaw29.LadderPrices', WHERE WHAT IT READS IS OF BULK AT MOST 1048576: true; the input reads as it did. -/
def ladderPricesUptoRow : OpenClaim := { program := "ytcjceecdcjjnfaa", sum := "98696752b57e7cd5a8eb1ced9d3c2ab5ba26880177cabc8a05fd35fb8c0dfc7e", func := "billing/billinglaw29.LadderPrices", spec := "ladderPrices", unfollowed := true, recurses := true, named := ["math/bits.divideError", "math/bits.overflowError"], apart := false, narrowed := true }
def LadderPricesUptoSaid : Prop := ladderPricesUptoRow.holds Try.pinned (OpenSpec.upto ladderPricesSpec)

/-- 'billinglaw29.LadderBetween', WHERE WHAT IT READS IS OF BULK AT MOST 1048576: true; the input reads as it did. -/
def ladderBetweenUptoRow : OpenClaim := { program := "ytcjceecdcjjnfaa", sum := "98696752b57e7cd5a8eb1ced9d3c2ab5ba26880177cabc8a05fd35fb8c0dfc7e", func := "billing/billinglaw29.LadderBetween", spec := "ladderBetween", unfollowed := true, recurses := true, named := ["math/bits.divideError", "math/bits.overflowError"], apart := false, narrowed := true }
def LadderBetweenUptoSaid : Prop := ladderBetweenUptoRow.holds Try.pinned (OpenSpec.upto ladderBetweenSpec)

/-- 'billinglaw29.LadderUnits', WHERE WHAT IT READS IS OF BULK AT MOST 1048576: true; the input reads as it did. -/
def ladderUnitsUptoRow : OpenClaim := { program := "ytcjceecdcjjnfaa", sum := "98696752b57e7cd5a8eb1ced9d3c2ab5ba26880177cabc8a05fd35fb8c0dfc7e", func := "billing/billinglaw29.LadderUnits", spec := "ladderUnits", unfollowed := true, recurses := true, named := ["math/bits.divideError", "math/bits.overflowError"], apart := false, narrowed := true }
def LadderUnitsUptoSaid : Prop := ladderUnitsUptoRow.holds Try.pinned (OpenSpec.upto ladderUnitsSpec)

/-- 'billinglaw29.LadderInverse', WHERE WHAT IT READS IS OF BULK AT MOST 1048576: true; the input reads as it did. -/
def ladderInverseUptoRow : OpenClaim := { program := "ytcjceecdcjjnfaa", sum := "98696752b57e7cd5a8eb1ced9d3c2ab5ba26880177cabc8a05fd35fb8c0dfc7e", func := "billing/billinglaw29.LadderInverse", spec := "ladderInverse", unfollowed := true, recurses := true, named := ["math/bits.divideError", "math/bits.overflowError"], apart := false, narrowed := true }
def LadderInverseUptoSaid : Prop := ladderInverseUptoRow.holds Try.pinned (OpenSpec.upto ladderInverseSpec)

/-- 'billinglaw29.LadderParts', WHERE WHAT IT READS IS OF BULK AT MOST 1048576: true; the input reads as it did. -/
def ladderPartsUptoRow : OpenClaim := { program := "ytcjceecdcjjnfaa", sum := "98696752b57e7cd5a8eb1ced9d3c2ab5ba26880177cabc8a05fd35fb8c0dfc7e", func := "billing/billinglaw29.LadderParts", spec := "ladderParts", unfollowed := true, recurses := true, named := ["math/bits.divideError", "math/bits.overflowError"], apart := false, narrowed := true }
def LadderPartsUptoSaid : Prop := ladderPartsUptoRow.holds Try.pinned (OpenSpec.upto ladderPartsSpec)

/-- 'billinglaw29.LadderBlocks', WHERE WHAT IT READS IS OF BULK AT MOST 1048576: true; the input reads as it did. -/
def ladderBlocksUptoRow : OpenClaim := { program := "ytcjceecdcjjnfaa", sum := "98696752b57e7cd5a8eb1ced9d3c2ab5ba26880177cabc8a05fd35fb8c0dfc7e", func := "billing/billinglaw29.LadderBlocks", spec := "ladderBlocks", unfollowed := true, recurses := true, named := ["math/bits.divideError", "math/bits.overflowError"], apart := false, narrowed := true }
def LadderBlocksUptoSaid : Prop := ladderBlocksUptoRow.holds Try.pinned (OpenSpec.upto ladderBlocksSpec)

end Rows
end Go.Proofs.Ytcjceecdcjjnfaa
