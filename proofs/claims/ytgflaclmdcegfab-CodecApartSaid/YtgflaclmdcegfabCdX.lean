/- Walks: the bytes of a number in the reference; texts. -/
import Derived.Test.YtgflaclmdcegfabRows
import Derived.Test.YtgflaclmdcegfabCdW
namespace Go.Proofs.Ytgflaclmdcegfab
open Go.RowKit


end Go.Proofs.Ytgflaclmdcegfab
