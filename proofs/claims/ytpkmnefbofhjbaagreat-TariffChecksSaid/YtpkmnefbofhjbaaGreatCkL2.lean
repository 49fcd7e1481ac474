/- Walk of the law on Expr. -/
import Derived.Test.YtpkmnefbofhjbaaGreatCkF
import Derived.Test.YtpkmnefbofhjbaaGreatCkN
namespace Go.Proofs.YtpkmnefbofhjbaaGreat
open Go.RowKit Ck Go.Lib

namespace Ck
theorem small_is {op num : Int} {tx : ByteArray} {args : List Ex} {v : Bool} (h : sml (.mk op num tx args) = v) (A : Option Addr) (d n c : Nat) (w : World) (hA : XA w d A args) (hn : args.length = n) (hc : n ≤ c) (hm : c ≤ maxLen) (ht : tx.size ≤ maxLen) :
    Calls Tryz.prog 26 #[.agg #[.int .i64 op, .int .i64 num, .string tx, .slice A n c]] w fun e w' => e = .returned (.bool v) ∧ Below w.heap.size w w' := by
  subst h; exact small_any d op num tx args A n c w hA hn hc hm ht
theorem refExpr_is {op num : Int} {tx : ByteArray} {args : List Ex} {s v : Int} (h : sortX 16 (.mk op num tx args) = (s, v)) (A : Option Addr) (d n c : Nat) (w : World) (hA : XA w d A args) (hn : args.length = n) (hc : n ≤ c) (hm : c ≤ maxLen) (ht : tx.size ≤ maxLen) :
    Calls Tryz.prog 92 #[.agg #[.int .i64 op, .int .i64 num, .string tx, .slice A n c]] w fun e w' => e = .returned (.tuple #[.int .i64 s, .int .i64 v]) ∧ Below w.heap.size w w' := by
  have := refExpr_any op num tx args A d n c w hA hn hc hm ht
  unfold SoOut at this
  rw [h] at this
  exact this
end Ck
end Go.Proofs.YtpkmnefbofhjbaaGreat
