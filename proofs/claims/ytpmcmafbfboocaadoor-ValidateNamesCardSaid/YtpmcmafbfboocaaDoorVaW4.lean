/- Walk of the law on names. -/
import Derived.Test.YtpmcmafbfboocaaDoorVaA
import Derived.Test.YtpmcmafbfboocaaDoorVaL4
namespace Go.Proofs.YtpmcmafbfboocaaDoor.Va
open Go.RowKit
theorem walkValidateNames (k : Int) (nm : ByteArray) (w : World) (_ : (Lit.int .i64 k).wf = true) (_ : nm.size ≤ maxLen) (hK : KN w) :
    Calls Tryd.prog 5 #[.int .i64 k, .string nm] w fun e w' => e = .returned (.bool true) ∧ Below w.heap.size w w' :=
  namesWalk (Lib.hid fun w h => alive_any w h) k nm w hK
end Go.Proofs.YtpmcmafbfboocaaDoor.Va
