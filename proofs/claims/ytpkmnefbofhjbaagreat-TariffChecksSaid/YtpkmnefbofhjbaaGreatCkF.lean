/- Walk: the laws' awake. -/
import Derived.Test.YtpkmnefbofhjbaaGreatCkE
namespace Go.Proofs.YtpkmnefbofhjbaaGreat.Ck
open Go Go.Lib Go.RowKit Go.Proofs.YtpkmnefbofhjbaaGreat Go.Maps

end Go.Proofs.YtpkmnefbofhjbaaGreat.Ck
