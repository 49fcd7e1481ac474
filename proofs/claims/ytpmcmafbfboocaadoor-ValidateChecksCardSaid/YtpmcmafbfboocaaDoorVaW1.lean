/- Walk of the law on single records. -/
import Derived.Test.YtpmcmafbfboocaaDoorVaA
import Derived.Test.YtpmcmafbfboocaaDoorVaL1
import Derived.Test.YtpmcmafbfboocaaDoorVaArg
namespace Go.Proofs.YtpmcmafbfboocaaDoor.Va
open Go.RowKit
theorem walkValidateChecks (r : Rc) (lo hi : Int) (w : World) (_ : r.Nums) (_ : -9223372036854775808 ≤ lo ∧ lo ≤ 9223372036854775807) (_ : -9223372036854775808 ≤ hi ∧ hi ≤ 9223372036854775807) (hK : KN w) :
    Calls Tryd.prog 3 #[.agg r.cells, .agg #[.int .i64 lo, .int .i64 hi]] w fun e w' => e = .returned (.bool true) ∧ Below w.heap.size w w' :=
  checksWalk (Lib.hid fun w h => alive_any w h) r lo hi w hK
end Go.Proofs.YtpmcmafbfboocaaDoor.Va
