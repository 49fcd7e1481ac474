/- Walks: sums of two amounts, in the program and in the reference. -/
import Derived.Test.YtcjceecdcjjnfaaAmtV
namespace Go.Proofs.Ytcjceecdcjjnfaa
open Go.RowKit

end Go.Proofs.Ytcjceecdcjjnfaa
