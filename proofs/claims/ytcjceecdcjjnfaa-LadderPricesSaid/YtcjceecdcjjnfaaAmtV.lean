/- Walks: amounts, their sums, and the sums of lists, in the program and in the reference. -/
import Derived.Test.YtcjceecdcjjnfaaRows
import Derived.Test.YtcjceecdcjjnfaaAmtM
namespace Go.Proofs.Ytcjceecdcjjnfaa
open Go.RowKit

end Go.Proofs.Ytcjceecdcjjnfaa
