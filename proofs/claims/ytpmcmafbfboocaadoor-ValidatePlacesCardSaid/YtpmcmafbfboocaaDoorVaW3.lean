/- Walk of the law on places. -/
import Derived.Test.YtpmcmafbfboocaaDoorVaA
import Derived.Test.YtpmcmafbfboocaaDoorVaL3
import Derived.Test.YtpmcmafbfboocaaDoorVaArg
import Derived.Test.YtpmcmafbfboocaaDoorVaRs
namespace Go.Proofs.YtpmcmafbfboocaaDoor.Va
open Go.RowKit
theorem walkValidatePlaces (A : Option Addr) (n c : Nat) (D : List Rc) (lo hi : Int) (w : World) (hn : D.length = n) (hc : n ≤ c) (hm : c ≤ maxLen) (hA : RecR w A D) (hAl : ∀ a, A = some a → a.block < w.heap.size) (_ : -9223372036854775808 ≤ lo ∧ lo ≤ 9223372036854775807) (_ : -9223372036854775808 ≤ hi ∧ hi ≤ 9223372036854775807) (hK : KN w) :
    Calls Tryd.prog 6 #[.slice A n c, .agg #[.int .i64 lo, .int .i64 hi]] w fun e w' => e = .returned (.bool true) ∧ Below w.heap.size w w' :=
  placesWalk (Lib.hid fun w h => alive_any w h) A n c D lo hi w hA hAl hn hc hm hK
end Go.Proofs.YtpmcmafbfboocaaDoor.Va
