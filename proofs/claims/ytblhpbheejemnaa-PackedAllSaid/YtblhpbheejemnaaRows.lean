/-
  No cell of these rows narrows 'for every input' (looked for: loops, veiled, ifaces, maps, wideKeys, modest, calm, conditions, laid).
  DERIVED. THE GIVEN ROWS OF THIS SEAT. 5 by the template 'for every input the law returns true; each argument reads behind the call as it read before'; 0 by the template 'total and deterministic' (their statements: YtblhpbheejemnaaTotals.lean).
  GIVEN WITH THE SEED: the statements are not yours to turn. If you find one false, say at which input.
  Laid BY PROGRAM, IN A SANDBOX (cutbox-rows.mjs): the forced cells as the released guide's own fill.sh prints them over the translation 7141a2dd663f2bc6… (all of the seat's roots in one cut). By AI agents, Wed Nov 11 2026. No macro, syntax, notation, axiom, sorry.
-/
import Derived.Test.YtblhpbheejemnaaChecked
import GoSem.Claim
import GoSem.ClaimJoined
import GoSem.ClaimMapViews
import Derived.JoinedTies
import Derived.KernelRfl
namespace Go.Proofs.Ytblhpbheejemnaa
/- THE CELL 'sum', in the pinned program and in every row, IS THE sha256 OF THE DUMP (.gsa) THAT YtblhpbheejemnaaProg.lean LOADS. Nothing in Lean hashes anything: it is a label: what it is worth is what the hold of that sum in a sandbox is worth. -/
noncomputable def Try.pinned : Pinned := { name := "ytblhpbheejemnaa", sum := "7141a2dd663f2bc6df495e22668b55912338828c3db31a36a7d04517b46ad515", checked := Try.checked }
namespace Rows
def none {H : Type} : Left H := { results := [], args := [] }

/-- 'billinglaw11.PackedDecimals': WHATEVER THE INPUT: true; the input reads as it did. -/
def packedDecimalsSpec : ChangeSpec := { name := "packedDecimals", fn := fun _ => fun
  | [d1, d2, d3] => { results := [.lit (.bool true)], args := [d1, d2, d3] }
  | _ => none }
def packedDecimalsRow : OpenClaim := { program := "ytblhpbheejemnaa", sum := "7141a2dd663f2bc6df495e22668b55912338828c3db31a36a7d04517b46ad515", func := "billing/billinglaw11.PackedDecimals", spec := "packedDecimals", apart := false }
def PackedDecimalsSaid : Prop := packedDecimalsRow.holds Try.pinned (OpenSpec.ofChange packedDecimalsSpec)

/-- ITS FALSE NEIGHBOUR: 'it returns false'. Refute it at one input. -/
def packedDecimalsWrong : ChangeSpec := { name := "packedDecimals", fn := fun _ => fun
  | [d1, d2, d3] => { results := [.lit (.bool false)], args := [d1, d2, d3] }
  | _ => none }
def PackedDecimalsWrongFalsely : Prop := packedDecimalsRow.holds Try.pinned (OpenSpec.ofChange packedDecimalsWrong)

/-- 'billinglaw11.PackedEncodes': WHATEVER THE INPUT: true; the input reads as it did. -/
def packedEncodesSpec : ChangeSpec := { name := "packedEncodes", fn := fun _ => fun
  | [d] => { results := [.lit (.bool true)], args := [d] }
  | _ => none }
def packedEncodesRow : OpenClaim := { program := "ytblhpbheejemnaa", sum := "7141a2dd663f2bc6df495e22668b55912338828c3db31a36a7d04517b46ad515", func := "billing/billinglaw11.PackedEncodes", spec := "packedEncodes", apart := false }
def PackedEncodesSaid : Prop := packedEncodesRow.holds Try.pinned (OpenSpec.ofChange packedEncodesSpec)

/-- ITS FALSE NEIGHBOUR: 'it returns false'. Refute it at one input. -/
def packedEncodesWrong : ChangeSpec := { name := "packedEncodes", fn := fun _ => fun
  | [d] => { results := [.lit (.bool false)], args := [d] }
  | _ => none }
def PackedEncodesWrongFalsely : Prop := packedEncodesRow.holds Try.pinned (OpenSpec.ofChange packedEncodesWrong)

/-- 'billinglaw11.PackedDecodes': WHATEVER THE INPUT: true; the input reads as it did. -/
def packedDecodesSpec : ChangeSpec := { name := "packedDecodes", fn := fun _ => fun
  | [d] => { results := [.lit (.bool true)], args := [d] }
  | _ => none }
def packedDecodesRow : OpenClaim := { program := "ytblhpbheejemnaa", sum := "7141a2dd663f2bc6df495e22668b55912338828c3db31a36a7d04517b46ad515", func := "billing/billinglaw11.PackedDecodes", spec := "packedDecodes", apart := false }
def PackedDecodesSaid : Prop := packedDecodesRow.holds Try.pinned (OpenSpec.ofChange packedDecodesSpec)

/-- ITS FALSE NEIGHBOUR: 'it returns false'. Refute it at one input. -/
def packedDecodesWrong : ChangeSpec := { name := "packedDecodes", fn := fun _ => fun
  | [d] => { results := [.lit (.bool false)], args := [d] }
  | _ => none }
def PackedDecodesWrongFalsely : Prop := packedDecodesRow.holds Try.pinned (OpenSpec.ofChange packedDecodesWrong)

/-- 'billinglaw11.PackedBack': WHATEVER THE INPUT: true; the input reads as it did. -/
def packedBackSpec : ChangeSpec := { name := "packedBack", fn := fun _ => fun
  | [d1, d2, d3] => { results := [.lit (.bool true)], args := [d1, d2, d3] }
  | _ => none }
def packedBackRow : OpenClaim := { program := "ytblhpbheejemnaa", sum := "7141a2dd663f2bc6df495e22668b55912338828c3db31a36a7d04517b46ad515", func := "billing/billinglaw11.PackedBack", spec := "packedBack", apart := false }
def PackedBackSaid : Prop := packedBackRow.holds Try.pinned (OpenSpec.ofChange packedBackSpec)

/-- ITS FALSE NEIGHBOUR: 'it returns false'. Refute it at one input. -/
def packedBackWrong : ChangeSpec := { name := "packedBack", fn := fun _ => fun
  | [d1, d2, d3] => { results := [.lit (.bool false)], args := [d1, d2, d3] }
  | _ => none }
def PackedBackWrongFalsely : Prop := packedBackRow.holds Try.pinned (OpenSpec.ofChange packedBackWrong)

/-- 'billinglaw11.PackedAll': WHATEVER THE INPUT: true; the input reads as it did. -/
def packedAllSpec : ChangeSpec := { name := "packedAll", fn := fun _ => fun
  | [d] => { results := [.lit (.bool true)], args := [d] }
  | _ => none }
def packedAllRow : OpenClaim := { program := "ytblhpbheejemnaa", sum := "7141a2dd663f2bc6df495e22668b55912338828c3db31a36a7d04517b46ad515", func := "billing/billinglaw11.PackedAll", spec := "packedAll", unfollowed := true, recurses := true, apart := false }
def PackedAllSaid : Prop := packedAllRow.holds Try.pinned (OpenSpec.ofChange packedAllSpec)

/-- ITS FALSE NEIGHBOUR: 'it returns false'. Refute it at one input. -/
def packedAllWrong : ChangeSpec := { name := "packedAll", fn := fun _ => fun
  | [d] => { results := [.lit (.bool false)], args := [d] }
  | _ => none }
def PackedAllWrongFalsely : Prop := packedAllRow.holds Try.pinned (OpenSpec.ofChange packedAllWrong)

/- THE SECOND FORM. 'bulk': how many values and letters a reading holds, each counted each time it is reached (what is shared counts as often as it is met; a slice's spare places count too). A statement '..UptoSaid' is the law's where the arguments, and the package variables that the reading takes, are together of bulk at most 1048576: NARROWER than '..Said'. Prove '..Said' where nothing that the law and all that it calls make is longer than what came in: it says more and counts as full. Else prove '..UptoSaid'. A law counts once. -/
mutual
def uptoBulk {H : Type} : DataW H → Nat
  | .lit (.string bytes) => bytes.length + 1
  | .lit _ => 1
  | .nil => 1
  | .ptr d => uptoBulk d + 1
  | .slice elems spare => uptoBulkAll elems + uptoBulkAll spare + 1
  | .agg parts => uptoBulkAll parts + 1
  | .iface _ d => uptoBulk d + 1
  | .map entries => uptoBulkEntries entries + 1
  | .held _ => 1
def uptoBulkAll {H : Type} : List (DataW H) → Nat
  | [] => 0
  | d :: r => uptoBulk d + uptoBulkAll r
def uptoBulkEntries {H : Type} : List (Lit × DataW H) → Nat
  | [] => 0
  | x :: r => uptoBulkEntry x + uptoBulkEntries r
def uptoBulkEntry {H : Type} : Lit × DataW H → Nat
  | (.string bytes, d) => bytes.length + uptoBulk d + 1
  | (_, d) => uptoBulk d + 1
 end
def uptoSmall : (H : Type) → List (DataW H) → Bool := fun _ ds => decide (uptoBulkAll ds ≤ 1048576)
def OpenSpec.upto (s : _root_.Go.ChangeSpec) : _root_.Go.OpenSpec := { _root_.Go.OpenSpec.ofChange s with cond := some uptoSmall }

/-- 'billinglaw11.PackedDecimals', WHERE WHAT IT READS IS OF BULK AT MOST 1048576: true; the input reads as it did. -/
def packedDecimalsUptoRow : OpenClaim := { program := "ytblhpbheejemnaa", sum := "7141a2dd663f2bc6df495e22668b55912338828c3db31a36a7d04517b46ad515", func := "billing/billinglaw11.PackedDecimals", spec := "packedDecimals", apart := false, narrowed := true }
def PackedDecimalsUptoSaid : Prop := packedDecimalsUptoRow.holds Try.pinned (OpenSpec.upto packedDecimalsSpec)

/-- 'billinglaw11.PackedEncodes', WHERE WHAT IT READS IS OF BULK AT MOST 1048576: true; the input reads as it did. -/
def packedEncodesUptoRow : OpenClaim := { program := "ytblhpbheejemnaa", sum := "7141a2dd663f2bc6df495e22668b55912338828c3db31a36a7d04517b46ad515", func := "billing/billinglaw11.PackedEncodes", spec := "packedEncodes", apart := false, narrowed := true }
def PackedEncodesUptoSaid : Prop := packedEncodesUptoRow.holds Try.pinned (OpenSpec.upto packedEncodesSpec)

/-- 'billinglaw11.PackedDecodes', WHERE WHAT IT READS IS OF BULK AT MOST 1048576: true; the input reads as it did. -/
def packedDecodesUptoRow : OpenClaim := { program := "ytblhpbheejemnaa", sum := "7141a2dd663f2bc6df495e22668b55912338828c3db31a36a7d04517b46ad515", func := "billing/billinglaw11.PackedDecodes", spec := "packedDecodes", apart := false, narrowed := true }
def PackedDecodesUptoSaid : Prop := packedDecodesUptoRow.holds Try.pinned (OpenSpec.upto packedDecodesSpec)

/-- 'billinglaw11.PackedBack', WHERE WHAT IT READS IS OF BULK AT MOST 1048576: true; the input reads as it did. -/
def packedBackUptoRow : OpenClaim := { program := "ytblhpbheejemnaa", sum := "7141a2dd663f2bc6df495e22668b55912338828c3db31a36a7d04517b46ad515", func := "billing/billinglaw11.PackedBack", spec := "packedBack", apart := false, narrowed := true }
def PackedBackUptoSaid : Prop := packedBackUptoRow.holds Try.pinned (OpenSpec.upto packedBackSpec)

/-- 'billinglaw11.PackedAll', WHERE WHAT IT READS IS OF BULK AT MOST 1048576: true; the input reads as it did. -/
def packedAllUptoRow : OpenClaim := { program := "ytblhpbheejemnaa", sum := "7141a2dd663f2bc6df495e22668b55912338828c3db31a36a7d04517b46ad515", func := "billing/billinglaw11.PackedAll", spec := "packedAll", unfollowed := true, recurses := true, apart := false, narrowed := true }
def PackedAllUptoSaid : Prop := packedAllUptoRow.holds Try.pinned (OpenSpec.upto packedAllSpec)

end Rows
end Go.Proofs.Ytblhpbheejemnaa
