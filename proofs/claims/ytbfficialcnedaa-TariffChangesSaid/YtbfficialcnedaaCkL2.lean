/- Walk of the law on Expr. -/
import Derived.Test.YtbfficialcnedaaCkF
import Derived.Test.YtbfficialcnedaaCkN
namespace Go.Proofs.Ytbfficialcnedaa
open Go.RowKit Ck Go.Lib

namespace Ck
theorem small_is {op num : Int} {tx : ByteArray} {args : List Ex} {v : Bool} (h : sml (.mk op num tx args) = v) (A : Option Addr) (d n c : Nat) (w : World) (hA : XA w d A args) (hn : args.length = n) (hc : n ≤ c) (hm : c ≤ maxLen) (ht : tx.size ≤ maxLen) :
    Calls Try.prog 33 #[.agg #[.int .i64 op, .int .i64 num, .string tx, .slice A n c]] w fun e w' => e = .returned (.bool v) ∧ Below w.heap.size w w' := by
  subst h; exact small_any d op num tx args A n c w hA hn hc hm ht
end Ck
end Go.Proofs.Ytbfficialcnedaa
