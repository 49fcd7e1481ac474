/- Walks: the bytes of a number in the reference; texts. -/
import Derived.Test.YtobkafkknbdacaaDoorRows
import Derived.Test.YtobkafkknbdacaaDoorCdW
namespace Go.Proofs.YtobkafkknbdacaaDoor
open Go.RowKit


end Go.Proofs.YtobkafkknbdacaaDoor
