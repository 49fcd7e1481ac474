/- Walks: whether a string is a number, in the program and in the reference. -/
import Derived.Test.YtklpaonhmmfioaaRows
import Derived.Test.YtklpaonhmmfioaaDigM
import Derived.Deep.QuietTactic
import Derived.BigQuiet
namespace Go.Proofs.Ytklpaonhmmfioaa
open Go.RowKit


end Go.Proofs.Ytklpaonhmmfioaa
