/- Walk: the laws' awake. -/
import Derived.Test.YtbfficialcnedaaCkE
namespace Go.Proofs.Ytbfficialcnedaa.Ck
open Go Go.Lib Go.RowKit Go.Proofs.Ytbfficialcnedaa Go.Maps

end Go.Proofs.Ytbfficialcnedaa.Ck
