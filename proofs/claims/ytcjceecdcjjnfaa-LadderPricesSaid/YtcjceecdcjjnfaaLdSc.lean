/- Walks: a price times begun blocks. -/
import Derived.Test.YtcjceecdcjjnfaaAmtMag
import Derived.Test.YtcjceecdcjjnfaaAmtAdd
import Derived.Test.YtcjceecdcjjnfaaShelf
import Derived.Deep.QuietTactic
import Derived.BigQuiet
import Derived.WalkSmall
import Derived.Lib.Mul64
namespace Go.Proofs.Ytcjceecdcjjnfaa
open Go.RowKit

set_option maxHeartbeats 1000000 in
theorem divOne (lo : Int) (h0 : 0 ≤ lo) (h1 : lo ≤ 18446744073709551615) (w : World) :
    Calls Try.prog 35 #[.int .u64 0, .int .u64 lo, .int .u64 1] w fun e w' => e = .returned (.tuple #[.int .u64 lo, .int .u64 0]) ∧ ∃ n, w' = w.drewN n := by
  have hb2 : ¬ (1 : Int) ≤ 0 := by omega
  have e1 : lo / 1 = lo := Int.ediv_one lo
  have e2 : lo % 1 = 0 := Int.emod_one lo
  have e3 : lo.tdiv 1 = lo := Int.tdiv_one lo
  have e4 : lo.tmod 1 = 0 := Int.tmod_one lo
  go_enter Try.func35, Try.ntmps35
  go_wp2
  go_quiet (fail)
  go_wp2
  go_ret2
  exact ⟨by first | rfl | simp only [e1, e2, e3, e4], _, rfl⟩

/-- What begun blocks cost. -/
def blkV (p b : Nat) : Int := if p * b ≤ 1125899906842624 then ((p * b : Nat) : Int) else 0
def blkE (p b : Nat) : Int := if p * b ≤ 1125899906842624 then 0 else 6
theorem blk_ok {p b m : Nat} (h : p * b = m) (h2 : m ≤ 1125899906842624) : blkV p b = (m : Int) ∧ blkE p b = 0 := by
  unfold blkV blkE; rw [h, if_pos h2, if_pos h2]; exact ⟨rfl, rfl⟩
theorem blk_no {p b : Nat} (h2 : ¬ p * b ≤ 1125899906842624) : blkV p b = 0 ∧ blkE p b = 6 := by
  unfold blkV blkE; rw [if_neg h2, if_neg h2]; exact ⟨rfl, rfl⟩
theorem retTwo {a b c d : Int} (h : a = b) (h2 : c = d) : Ending.returned (.tuple #[.int .i64 a, .int .i64 c]) = .returned (.tuple #[.int .i64 b, .int .i64 d]) := by rw [h, h2]

end Go.Proofs.Ytcjceecdcjjnfaa
