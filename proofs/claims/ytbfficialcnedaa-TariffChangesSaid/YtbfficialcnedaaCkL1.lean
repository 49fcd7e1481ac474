/- Walk of the law on Steps. -/
import Derived.Test.YtbfficialcnedaaCkF
namespace Go.Proofs.Ytbfficialcnedaa
open Go.RowKit Ck Go.Lib

namespace Ck
end Ck
end Go.Proofs.Ytbfficialcnedaa
