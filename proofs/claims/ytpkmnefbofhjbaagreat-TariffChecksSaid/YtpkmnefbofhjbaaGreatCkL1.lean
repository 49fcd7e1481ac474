/- Walk of the law on Steps. -/
import Derived.Test.YtpkmnefbofhjbaaGreatCkF
namespace Go.Proofs.YtpkmnefbofhjbaaGreat
open Go.RowKit Ck Go.Lib

namespace Ck
theorem refSteps_is {l : List Sp} {v : Int} (h : stepsE l = v) (A : Option Addr) (n c : Nat) (w : World) (hA : SpR w A l) (hn : l.length = n) (hc : n ≤ c) (hm : c ≤ maxLen) :
    Calls Tryz.prog 91 #[.slice A n c] w fun e w' => e = .returned (.int .i64 v) ∧ Below w.heap.size w w' := by
  subst h; exact refSteps_any A n c l w hA hn hc hm
end Ck
end Go.Proofs.YtpkmnefbofhjbaaGreat
