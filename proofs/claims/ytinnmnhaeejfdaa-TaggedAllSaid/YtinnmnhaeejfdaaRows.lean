/-
  No cell of these rows narrows 'for every input' (looked for: loops, veiled, ifaces, maps, wideKeys, modest, calm, conditions, laid).
  DERIVED. THE GIVEN ROWS OF THIS SEAT. 6 by the template 'for every input the law returns true; each argument reads behind the call as it read before'; 0 by the template 'total and deterministic' (their statements: YtinnmnhaeejfdaaTotals.lean).
  GIVEN WITH THE SEED: the statements are not yours to turn. If you find one false, say at which input.
  Laid BY PROGRAM, IN A SANDBOX (cutbox-rows.mjs): the forced cells as the released guide's own fill.sh prints them over the translation ad32a2f6a5549de1… (all of the seat's roots in one cut). By AI agents, Wed Nov 11 2026. No macro, syntax, notation, axiom, sorry.
-/
import Derived.Test.YtinnmnhaeejfdaaChecked
import GoSem.Claim
import GoSem.ClaimJoined
import GoSem.ClaimMapViews
import Derived.JoinedTies
import Derived.KernelRfl
namespace Go.Proofs.Ytinnmnhaeejfdaa
/- THE CELL 'sum', in the pinned program and in every row, IS THE sha256 OF THE DUMP (.gsa) THAT YtinnmnhaeejfdaaProg.lean LOADS. Nothing in Lean hashes anything: it is a label: what it is worth is what the hold of that sum in a sandbox is worth. -/
noncomputable def Try.pinned : Pinned := { name := "ytinnmnhaeejfdaa", sum := "ad32a2f6a5549de1064454105ecaea8f99fdb30e5fbd58fd32d28e0b4c7287de", checked := Try.checked }
namespace Rows
def none {H : Type} : Left H := { results := [], args := [] }

/-- 'billinglaw10.TaggedBuilds': WHATEVER THE INPUT: true; the input reads as it did. -/
def taggedBuildsSpec : ChangeSpec := { name := "taggedBuilds", fn := fun _ => fun
  | [d] => { results := [.lit (.bool true)], args := [d] }
  | _ => none }
def taggedBuildsRow : OpenClaim := { program := "ytinnmnhaeejfdaa", sum := "ad32a2f6a5549de1064454105ecaea8f99fdb30e5fbd58fd32d28e0b4c7287de", func := "billing/billinglaw10.TaggedBuilds", spec := "taggedBuilds", apart := false }
def TaggedBuildsSaid : Prop := taggedBuildsRow.holds Try.pinned (OpenSpec.ofChange taggedBuildsSpec)

/-- ITS FALSE NEIGHBOUR: 'it returns false'. Refute it at one input. -/
def taggedBuildsWrong : ChangeSpec := { name := "taggedBuilds", fn := fun _ => fun
  | [d] => { results := [.lit (.bool false)], args := [d] }
  | _ => none }
def TaggedBuildsWrongFalsely : Prop := taggedBuildsRow.holds Try.pinned (OpenSpec.ofChange taggedBuildsWrong)

/-- 'billinglaw10.TaggedElements': WHATEVER THE INPUT: true; the input reads as it did. -/
def taggedElementsSpec : ChangeSpec := { name := "taggedElements", fn := fun _ => fun
  | [d] => { results := [.lit (.bool true)], args := [d] }
  | _ => none }
def taggedElementsRow : OpenClaim := { program := "ytinnmnhaeejfdaa", sum := "ad32a2f6a5549de1064454105ecaea8f99fdb30e5fbd58fd32d28e0b4c7287de", func := "billing/billinglaw10.TaggedElements", spec := "taggedElements", apart := false }
def TaggedElementsSaid : Prop := taggedElementsRow.holds Try.pinned (OpenSpec.ofChange taggedElementsSpec)

/-- ITS FALSE NEIGHBOUR: 'it returns false'. Refute it at one input. -/
def taggedElementsWrong : ChangeSpec := { name := "taggedElements", fn := fun _ => fun
  | [d] => { results := [.lit (.bool false)], args := [d] }
  | _ => none }
def TaggedElementsWrongFalsely : Prop := taggedElementsRow.holds Try.pinned (OpenSpec.ofChange taggedElementsWrong)

/-- 'billinglaw10.TaggedEncodes': WHATEVER THE INPUT: true; the input reads as it did. -/
def taggedEncodesSpec : ChangeSpec := { name := "taggedEncodes", fn := fun _ => fun
  | [d] => { results := [.lit (.bool true)], args := [d] }
  | _ => none }
def taggedEncodesRow : OpenClaim := { program := "ytinnmnhaeejfdaa", sum := "ad32a2f6a5549de1064454105ecaea8f99fdb30e5fbd58fd32d28e0b4c7287de", func := "billing/billinglaw10.TaggedEncodes", spec := "taggedEncodes", apart := false }
def TaggedEncodesSaid : Prop := taggedEncodesRow.holds Try.pinned (OpenSpec.ofChange taggedEncodesSpec)

/-- ITS FALSE NEIGHBOUR: 'it returns false'. Refute it at one input. -/
def taggedEncodesWrong : ChangeSpec := { name := "taggedEncodes", fn := fun _ => fun
  | [d] => { results := [.lit (.bool false)], args := [d] }
  | _ => none }
def TaggedEncodesWrongFalsely : Prop := taggedEncodesRow.holds Try.pinned (OpenSpec.ofChange taggedEncodesWrong)

/-- 'billinglaw10.TaggedDecodes': WHATEVER THE INPUT: true; the input reads as it did. -/
def taggedDecodesSpec : ChangeSpec := { name := "taggedDecodes", fn := fun _ => fun
  | [d] => { results := [.lit (.bool true)], args := [d] }
  | _ => none }
def taggedDecodesRow : OpenClaim := { program := "ytinnmnhaeejfdaa", sum := "ad32a2f6a5549de1064454105ecaea8f99fdb30e5fbd58fd32d28e0b4c7287de", func := "billing/billinglaw10.TaggedDecodes", spec := "taggedDecodes", apart := false }
def TaggedDecodesSaid : Prop := taggedDecodesRow.holds Try.pinned (OpenSpec.ofChange taggedDecodesSpec)

/-- ITS FALSE NEIGHBOUR: 'it returns false'. Refute it at one input. -/
def taggedDecodesWrong : ChangeSpec := { name := "taggedDecodes", fn := fun _ => fun
  | [d] => { results := [.lit (.bool false)], args := [d] }
  | _ => none }
def TaggedDecodesWrongFalsely : Prop := taggedDecodesRow.holds Try.pinned (OpenSpec.ofChange taggedDecodesWrong)

/-- 'billinglaw10.TaggedBack': WHATEVER THE INPUT: true; the input reads as it did. -/
def taggedBackSpec : ChangeSpec := { name := "taggedBack", fn := fun _ => fun
  | [d1, d2, d3] => { results := [.lit (.bool true)], args := [d1, d2, d3] }
  | _ => none }
def taggedBackRow : OpenClaim := { program := "ytinnmnhaeejfdaa", sum := "ad32a2f6a5549de1064454105ecaea8f99fdb30e5fbd58fd32d28e0b4c7287de", func := "billing/billinglaw10.TaggedBack", spec := "taggedBack", apart := false }
def TaggedBackSaid : Prop := taggedBackRow.holds Try.pinned (OpenSpec.ofChange taggedBackSpec)

/-- ITS FALSE NEIGHBOUR: 'it returns false'. Refute it at one input. -/
def taggedBackWrong : ChangeSpec := { name := "taggedBack", fn := fun _ => fun
  | [d1, d2, d3] => { results := [.lit (.bool false)], args := [d1, d2, d3] }
  | _ => none }
def TaggedBackWrongFalsely : Prop := taggedBackRow.holds Try.pinned (OpenSpec.ofChange taggedBackWrong)

/-- 'billinglaw10.TaggedAll': WHATEVER THE INPUT: true; the input reads as it did. -/
def taggedAllSpec : ChangeSpec := { name := "taggedAll", fn := fun _ => fun
  | [d] => { results := [.lit (.bool true)], args := [d] }
  | _ => none }
def taggedAllRow : OpenClaim := { program := "ytinnmnhaeejfdaa", sum := "ad32a2f6a5549de1064454105ecaea8f99fdb30e5fbd58fd32d28e0b4c7287de", func := "billing/billinglaw10.TaggedAll", spec := "taggedAll", unfollowed := true, recurses := true, apart := false }
def TaggedAllSaid : Prop := taggedAllRow.holds Try.pinned (OpenSpec.ofChange taggedAllSpec)

/-- ITS FALSE NEIGHBOUR: 'it returns false'. Refute it at one input. -/
def taggedAllWrong : ChangeSpec := { name := "taggedAll", fn := fun _ => fun
  | [d] => { results := [.lit (.bool false)], args := [d] }
  | _ => none }
def TaggedAllWrongFalsely : Prop := taggedAllRow.holds Try.pinned (OpenSpec.ofChange taggedAllWrong)

/- THE SECOND FORM. 'bulk': how many values and letters a reading holds, each counted each time it is reached (what is shared counts as often as it is met; a slice's spare places count too). A statement '..UptoSaid' is the law's where the arguments, and the package variables that the reading takes, are together of bulk at most 1048576: NARROWER than '..Said'. Prove '..Said' where nothing that the law and all that it calls make is longer than what came in: it says more and counts as full. Else prove '..UptoSaid'. A law counts once. -/
mutual
def uptoBulk {H : Type} : DataW H → Nat
  | .lit (.string bytes) => bytes.length + 1
  | .lit _ => 1
  | .nil => 1
  | .ptr d => uptoBulk d + 1
  | .slice elems spare => uptoBulkAll elems + uptoBulkAll spare + 1
  | .agg parts => uptoBulkAll parts + 1
  | .iface _ d => uptoBulk d + 1
  | .map entries => uptoBulkEntries entries + 1
  | .held _ => 1
def uptoBulkAll {H : Type} : List (DataW H) → Nat
  | [] => 0
  | d :: r => uptoBulk d + uptoBulkAll r
def uptoBulkEntries {H : Type} : List (Lit × DataW H) → Nat
  | [] => 0
  | x :: r => uptoBulkEntry x + uptoBulkEntries r
def uptoBulkEntry {H : Type} : Lit × DataW H → Nat
  | (.string bytes, d) => bytes.length + uptoBulk d + 1
  | (_, d) => uptoBulk d + 1
 end
def uptoSmall : (H : Type) → List (DataW H) → Bool := fun _ ds => decide (uptoBulkAll ds ≤ 1048576)
def OpenSpec.upto (s : _root_.Go.ChangeSpec) : _root_.Go.OpenSpec := { _root_.Go.OpenSpec.ofChange s with cond := some uptoSmall }

/-- 'billinglaw10.TaggedBuilds', WHERE WHAT IT READS IS OF BULK AT MOST 1048576: true; the input reads as it did. -/
def taggedBuildsUptoRow : OpenClaim := { program := "ytinnmnhaeejfdaa", sum := "ad32a2f6a5549de1064454105ecaea8f99fdb30e5fbd58fd32d28e0b4c7287de", func := "billing/billinglaw10.TaggedBuilds", spec := "taggedBuilds", apart := false, narrowed := true }
def TaggedBuildsUptoSaid : Prop := taggedBuildsUptoRow.holds Try.pinned (OpenSpec.upto taggedBuildsSpec)

/-- 'billinglaw10.TaggedElements', WHERE WHAT IT READS IS OF BULK AT MOST 1048576: true; the input reads as it did. -/
def taggedElementsUptoRow : OpenClaim := { program := "ytinnmnhaeejfdaa", sum := "ad32a2f6a5549de1064454105ecaea8f99fdb30e5fbd58fd32d28e0b4c7287de", func := "billing/billinglaw10.TaggedElements", spec := "taggedElements", apart := false, narrowed := true }
def TaggedElementsUptoSaid : Prop := taggedElementsUptoRow.holds Try.pinned (OpenSpec.upto taggedElementsSpec)

/-- 'billinglaw10.TaggedEncodes', WHERE WHAT IT READS IS OF BULK AT MOST 1048576: true; the input reads as it did. -/
def taggedEncodesUptoRow : OpenClaim := { program := "ytinnmnhaeejfdaa", sum := "ad32a2f6a5549de1064454105ecaea8f99fdb30e5fbd58fd32d28e0b4c7287de", func := "billing/billinglaw10.TaggedEncodes", spec := "taggedEncodes", apart := false, narrowed := true }
def TaggedEncodesUptoSaid : Prop := taggedEncodesUptoRow.holds Try.pinned (OpenSpec.upto taggedEncodesSpec)

/-- 'billinglaw10.TaggedDecodes', WHERE WHAT IT READS IS OF BULK AT MOST 1048576: true; the input reads as it did. -/
def taggedDecodesUptoRow : OpenClaim := { program := "ytinnmnhaeejfdaa", sum := "ad32a2f6a5549de1064454105ecaea8f99fdb30e5fbd58fd32d28e0b4c7287de", func := "billing/billinglaw10.TaggedDecodes", spec := "taggedDecodes", apart := false, narrowed := true }
def TaggedDecodesUptoSaid : Prop := taggedDecodesUptoRow.holds Try.pinned (OpenSpec.upto taggedDecodesSpec)

/-- 'billinglaw10.TaggedBack', WHERE WHAT IT READS IS OF BULK AT MOST 1048576: true; the input reads as it did. -/
def taggedBackUptoRow : OpenClaim := { program := "ytinnmnhaeejfdaa", sum := "ad32a2f6a5549de1064454105ecaea8f99fdb30e5fbd58fd32d28e0b4c7287de", func := "billing/billinglaw10.TaggedBack", spec := "taggedBack", apart := false, narrowed := true }
def TaggedBackUptoSaid : Prop := taggedBackUptoRow.holds Try.pinned (OpenSpec.upto taggedBackSpec)

/-- 'billinglaw10.TaggedAll', WHERE WHAT IT READS IS OF BULK AT MOST 1048576: true; the input reads as it did. -/
def taggedAllUptoRow : OpenClaim := { program := "ytinnmnhaeejfdaa", sum := "ad32a2f6a5549de1064454105ecaea8f99fdb30e5fbd58fd32d28e0b4c7287de", func := "billing/billinglaw10.TaggedAll", spec := "taggedAll", unfollowed := true, recurses := true, apart := false, narrowed := true }
def TaggedAllUptoSaid : Prop := taggedAllUptoRow.holds Try.pinned (OpenSpec.upto taggedAllSpec)

end Rows
end Go.Proofs.Ytinnmnhaeejfdaa
