/- Walks: packing digits, in the program and in the reference. -/
import Derived.Test.YtieehofijndelaaRows
import Derived.Test.YtieehofijndelaaDigV
import Derived.Test.YtieehofijndelaaDigPackM
import Derived.Below
import Derived.Maps.AppendAt
namespace Go.Proofs.Ytieehofijndelaa
open Go.RowKit
theorem byteInfo : (Try.prog.info? 5).map (fun i => (i.zero, i.size, i.bytes)) = some (some (.int .u8 0), 1, 1) := by kernel_rfl

end Go.Proofs.Ytieehofijndelaa
