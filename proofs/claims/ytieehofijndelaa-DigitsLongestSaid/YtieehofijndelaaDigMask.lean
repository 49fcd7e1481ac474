/- Walks: masking, in the program and in the reference. -/
import Derived.Test.YtieehofijndelaaRows
import Derived.Test.YtieehofijndelaaDigM
import Derived.Test.YtieehofijndelaaDigMaskM
import Derived.Test.YtieehofijndelaaShelf
import Derived.Deep.QuietTactic
import Derived.Deep.RegionWith
import Derived.BigQuiet
import Derived.Below
namespace Go.Proofs.Ytieehofijndelaa
open Go.RowKit

end Go.Proofs.Ytieehofijndelaa
