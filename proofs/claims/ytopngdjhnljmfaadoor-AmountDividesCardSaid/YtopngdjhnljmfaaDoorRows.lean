/-
  NARROWER THAN 'FOR EVERY INPUT', by the rows' own cells (each row's printed sentence says how): AmountDivides: laid · AmountSplit: laid.
  DERIVED. THE GIVEN ROWS OF THIS SEAT. 2 by the template 'for every input the law returns true; each argument reads behind the call as it read before'; 0 by the template 'total and deterministic' (their statements: YtopngdjhnljmfaaDoorTotals.lean).
  GIVEN WITH THE SEED: the statements are not yours to turn. If you find one false, say at which input.
  Laid BY PROGRAM, IN A SANDBOX (cutbox-rows.mjs): the forced cells as the released guide's own fill.sh prints them over the translation 0e4bdbc4fd9ee541… (all of the seat's roots in one cut). By AI agents, Wed Nov 11 2026. No macro, syntax, notation, axiom, sorry.
-/
import Derived.Test.YtopngdjhnljmfaaDoorChecked
import GoSem.Claim
import GoSem.ClaimJoined
import GoSem.ClaimMapViews
import Derived.JoinedTies
import Derived.KernelRfl
namespace Go.Proofs.YtopngdjhnljmfaaDoor
/- THE CELL 'sum', in the pinned program and in every row, IS THE sha256 OF THE DUMP (.gsa) THAT YtopngdjhnljmfaaDoorProg.lean LOADS. Nothing in Lean hashes anything: it is a label: what it is worth is what the hold of that sum in a sandbox is worth. -/
noncomputable def Tryd.pinned : Pinned := { name := "ytopngdjhnljmfaadoor", sum := "0e4bdbc4fd9ee54154877a44d782fb38cdbc4fa4ad230fa7e12bfd2dd9132e60", checked := Tryd.checked }
namespace Rows
def none {H : Type} : Left H := { results := [], args := [] }

/- WHAT THE LISTED PACKAGE-LEVEL VARIABLES READ AS WHEN THE CALL BEGINS. Each datum BY PROGRAM (the guide's laid-datum.mjs) off the statement by which the dump's own 'gosem.cut.vars' lays the variable. In a bare row this is a premise. The card (YtopngdjhnljmfaaDoorCards.lean) ties it to the program's text. -/
def laid_billing_amount_powers {H : Type} : DataW H := .agg [.lit (.int .u64 1), .lit (.int .u64 10), .lit (.int .u64 100), .lit (.int .u64 1000), .lit (.int .u64 10000), .lit (.int .u64 100000), .lit (.int .u64 1000000), .lit (.int .u64 10000000), .lit (.int .u64 100000000), .lit (.int .u64 1000000000), .lit (.int .u64 10000000000), .lit (.int .u64 100000000000), .lit (.int .u64 1000000000000), .lit (.int .u64 10000000000000), .lit (.int .u64 100000000000000), .lit (.int .u64 1000000000000000), .lit (.int .u64 10000000000000000), .lit (.int .u64 100000000000000000), .lit (.int .u64 1000000000000000000)]

/-- 'billinglaw01.AmountDivides': WHATEVER THE INPUT: true; the input reads as it did. -/
def amountDividesSpec : ChangeSpec := { name := "amountDivides", fn := fun _ => fun
  | [d1, d2] => { results := [.lit (.bool true)], args := [d1, d2] }
  | _ => none }
def amountDividesRow : OpenClaim := { program := "ytopngdjhnljmfaadoor", sum := "0e4bdbc4fd9ee54154877a44d782fb38cdbc4fa4ad230fa7e12bfd2dd9132e60", func := "billing/billinglaw01.AmountDivides", spec := "amountDivides", inPlace := ["internal/bytealg.IndexByteString", "internal/bytealg.IndexString"], unfollowed := true, recurses := true, named := ["math/bits.divideError", "math/bits.overflowError", "billing/amount.powers", "internal/bytealg.MaxLen"], apart := false, laid := [("billing/amount.powers", laid_billing_amount_powers)] }
def AmountDividesSaid : Prop := amountDividesRow.holds Tryd.pinned (OpenSpec.ofChange amountDividesSpec)

/-- ITS FALSE NEIGHBOUR: 'it returns false'. Refute it at one input. -/
def amountDividesWrong : ChangeSpec := { name := "amountDivides", fn := fun _ => fun
  | [d1, d2] => { results := [.lit (.bool false)], args := [d1, d2] }
  | _ => none }
def AmountDividesWrongFalsely : Prop := amountDividesRow.holds Tryd.pinned (OpenSpec.ofChange amountDividesWrong)

/-- 'billinglaw01.AmountSplit': WHATEVER THE INPUT: true; the input reads as it did. -/
def amountSplitSpec : ChangeSpec := { name := "amountSplit", fn := fun _ => fun
  | [d1, d2] => { results := [.lit (.bool true)], args := [d1, d2] }
  | _ => none }
def amountSplitRow : OpenClaim := { program := "ytopngdjhnljmfaadoor", sum := "0e4bdbc4fd9ee54154877a44d782fb38cdbc4fa4ad230fa7e12bfd2dd9132e60", func := "billing/billinglaw01.AmountSplit", spec := "amountSplit", inPlace := ["internal/bytealg.IndexByteString", "internal/bytealg.IndexString"], unfollowed := true, recurses := true, named := ["math/bits.divideError", "math/bits.overflowError", "billing/amount.powers", "internal/bytealg.MaxLen"], apart := false, laid := [("billing/amount.powers", laid_billing_amount_powers)] }
def AmountSplitSaid : Prop := amountSplitRow.holds Tryd.pinned (OpenSpec.ofChange amountSplitSpec)

/-- ITS FALSE NEIGHBOUR: 'it returns false'. Refute it at one input. -/
def amountSplitWrong : ChangeSpec := { name := "amountSplit", fn := fun _ => fun
  | [d1, d2] => { results := [.lit (.bool false)], args := [d1, d2] }
  | _ => none }
def AmountSplitWrongFalsely : Prop := amountSplitRow.holds Tryd.pinned (OpenSpec.ofChange amountSplitWrong)

/- THE SECOND FORM. 'bulk': how many values and letters a reading holds, each counted each time it is reached (what is shared counts as often as it is met; a slice's spare places count too). A statement '..UptoSaid' is the law's where the arguments, and the package variables that the reading takes, are together of bulk at most 1048576: NARROWER than '..Said'. Prove '..Said' where nothing that the law and all that it calls make is longer than what came in: it says more and counts as full. Else prove '..UptoSaid'. A law counts once. -/
mutual
def uptoBulk {H : Type} : DataW H → Nat
  | .lit (.string bytes) => bytes.length + 1
  | .lit _ => 1
  | .nil => 1
  | .ptr d => uptoBulk d + 1
  | .slice elems spare => uptoBulkAll elems + uptoBulkAll spare + 1
  | .agg parts => uptoBulkAll parts + 1
  | .iface _ d => uptoBulk d + 1
  | .map entries => uptoBulkEntries entries + 1
  | .held _ => 1
def uptoBulkAll {H : Type} : List (DataW H) → Nat
  | [] => 0
  | d :: r => uptoBulk d + uptoBulkAll r
def uptoBulkEntries {H : Type} : List (Lit × DataW H) → Nat
  | [] => 0
  | x :: r => uptoBulkEntry x + uptoBulkEntries r
def uptoBulkEntry {H : Type} : Lit × DataW H → Nat
  | (.string bytes, d) => bytes.length + uptoBulk d + 1
  | (_, d) => uptoBulk d + 1
 end
def uptoSmall : (H : Type) → List (DataW H) → Bool := fun _ ds => decide (uptoBulkAll ds ≤ 1048576)
def OpenSpec.upto (s : _root_.Go.ChangeSpec) : _root_.Go.OpenSpec := { _root_.Go.OpenSpec.ofChange s with cond := some uptoSmall }

/-- 'billinglaw01.AmountDivides', WHERE WHAT IT READS IS OF BULK AT MOST 1048576: true; the input reads as it did. -/
def amountDividesUptoRow : OpenClaim := { program := "ytopngdjhnljmfaadoor", sum := "0e4bdbc4fd9ee54154877a44d782fb38cdbc4fa4ad230fa7e12bfd2dd9132e60", func := "billing/billinglaw01.AmountDivides", spec := "amountDivides", inPlace := ["internal/bytealg.IndexByteString", "internal/bytealg.IndexString"], unfollowed := true, recurses := true, named := ["math/bits.divideError", "math/bits.overflowError", "billing/amount.powers", "internal/bytealg.MaxLen"], apart := false, laid := [("billing/amount.powers", laid_billing_amount_powers)], narrowed := true }
def AmountDividesUptoSaid : Prop := amountDividesUptoRow.holds Tryd.pinned (OpenSpec.upto amountDividesSpec)

/-- 'billinglaw01.AmountSplit', WHERE WHAT IT READS IS OF BULK AT MOST 1048576: true; the input reads as it did. -/
def amountSplitUptoRow : OpenClaim := { program := "ytopngdjhnljmfaadoor", sum := "0e4bdbc4fd9ee54154877a44d782fb38cdbc4fa4ad230fa7e12bfd2dd9132e60", func := "billing/billinglaw01.AmountSplit", spec := "amountSplit", inPlace := ["internal/bytealg.IndexByteString", "internal/bytealg.IndexString"], unfollowed := true, recurses := true, named := ["math/bits.divideError", "math/bits.overflowError", "billing/amount.powers", "internal/bytealg.MaxLen"], apart := false, laid := [("billing/amount.powers", laid_billing_amount_powers)], narrowed := true }
def AmountSplitUptoSaid : Prop := amountSplitUptoRow.holds Tryd.pinned (OpenSpec.upto amountSplitSpec)

end Rows
end Go.Proofs.YtopngdjhnljmfaaDoor
