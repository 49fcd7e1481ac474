/- The statement LadderPrices, from the walk of its Go text: for every input the call returns true, and the arguments read as they did. -/
import Derived.Test.YtcjceecdcjjnfaaLdL1
import Derived.Test.YtcjceecdcjjnfaaLawKit
import Derived.Test.YtcjceecdcjjnfaaCkArg
namespace Go.Proofs.Ytcjceecdcjjnfaa.ladderPrices
open Go.ChangeShapes Go.WideShapes Go.ChangeAt Go.RowKit
open Go.ChangeMaps (open_string)
theorem own : ownKnob Try.prog.godebug = none := by kernel_rfl
theorem laidOut : laidOutB Try.prog = true := by kernel_rfl
end Go.Proofs.Ytcjceecdcjjnfaa.ladderPrices
