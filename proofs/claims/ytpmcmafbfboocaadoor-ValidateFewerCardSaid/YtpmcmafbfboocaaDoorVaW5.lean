/- Walk of the law on fewer units. -/
import Derived.Test.YtpmcmafbfboocaaDoorVaA
import Derived.Test.YtpmcmafbfboocaaDoorVaL5
import Derived.Test.YtpmcmafbfboocaaDoorVaArg
namespace Go.Proofs.YtpmcmafbfboocaaDoor.Va
open Go.RowKit
theorem walkValidateFewer (r : Rc) (u s : Int) (w : World) (_ : r.Nums) (_ : (Lit.int .i64 u).wf = true) (_ : (Lit.int .i64 s).wf = true) (hK : KN w) :
    Calls Tryd.prog 7 #[.agg r.cells, .int .i64 u, .int .i64 s] w fun e w' => e = .returned (.bool true) ∧ Below w.heap.size w w' :=
  fewerWalk (Lib.hid fun w h => alive_any w h) r u s w hK
end Go.Proofs.YtpmcmafbfboocaaDoor.Va
