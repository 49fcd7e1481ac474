/- Walk: zones.Find. -/
import Derived.Test.YtpkmnefbofhjbaaGreatZnI
namespace Go.Proofs.YtpkmnefbofhjbaaGreat.Zn
open Go.RowKit Go.Proofs.YtpkmnefbofhjbaaGreat Go.Maps

/-- The zone of a text; nothing if it has none. -/
def fnd (l : List Zo) (s : Wd) : Wd := if ckZ l = 0 ∧ numB s = true then lk (val (ixL l).2) s else []
def FndOut (l : List Zo) (s : Wd) (w : World) (e : Ending) (w' : World) : Prop := ∃ v : ByteArray, e = .returned (.tuple #[.string v, .bool !(fnd l s).isEmpty]) ∧ v.data.toList = fnd l s ∧ v.size ≤ maxLen ∧ Below w.heap.size w w'
end Go.Proofs.YtpkmnefbofhjbaaGreat.Zn
