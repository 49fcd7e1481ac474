/- Walk: lookUp. -/
import Derived.Test.YtcjceecdcjjnfaaZnS
import Derived.Deep.QuietTactic
import Derived.BigQuiet
namespace Go.Proofs.Ytcjceecdcjjnfaa.Zn
open Go Go.Maps Go.RowKit

def StrOut (l : Wd) (w : World) (e : Ending) (w' : World) : Prop := ∃ v : ByteArray, e = .returned (.string v) ∧ v.data.toList = l ∧ v.size ≤ maxLen ∧ w = w'
theorem ext_take (s : ByteArray) (k : Nat) : (s.extract 0 k).data.toList = s.data.toList.take k := by
  simp [ByteArray.data_extract]
end Go.Proofs.Ytcjceecdcjjnfaa.Zn
