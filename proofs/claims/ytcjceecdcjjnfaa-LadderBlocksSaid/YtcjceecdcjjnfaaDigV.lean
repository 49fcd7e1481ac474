/- Walks: whether a string is a number, in the program and in the reference. -/
import Derived.Test.YtcjceecdcjjnfaaRows
import Derived.Test.YtcjceecdcjjnfaaDigM
import Derived.Deep.QuietTactic
import Derived.BigQuiet
namespace Go.Proofs.Ytcjceecdcjjnfaa
open Go.RowKit


end Go.Proofs.Ytcjceecdcjjnfaa
