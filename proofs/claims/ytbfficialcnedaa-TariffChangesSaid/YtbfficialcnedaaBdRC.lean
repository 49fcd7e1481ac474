/- Walks: a list of bands is checked by the reference. -/
import Derived.Test.YtbfficialcnedaaBdC
namespace Go.Proofs.Ytbfficialcnedaa
open Go.RowKit

end Go.Proofs.Ytbfficialcnedaa
