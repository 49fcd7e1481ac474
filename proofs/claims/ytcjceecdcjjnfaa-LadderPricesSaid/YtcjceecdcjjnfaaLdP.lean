/- Walk: the price of units for a valid ladder. -/
import Derived.Test.YtcjceecdcjjnfaaCkR
import Derived.Test.YtcjceecdcjjnfaaLdM
import Derived.Test.YtcjceecdcjjnfaaLdSc
namespace Go.Proofs.Ytcjceecdcjjnfaa.Ck
open Go Go.Lib Go.RowKit Go.Proofs.Ytcjceecdcjjnfaa

theorem blkV_eq {p b m : Nat} (h : p * b = m) : blkV p b = (if m ≤ 1125899906842624 then (m : Int) else 0) ∧ blkE p b = (if m ≤ 1125899906842624 then 0 else 6) := by
  subst h; exact ⟨rfl, rfl⟩
theorem ret_2 {a b c d : Int} (h : a = b) (h2 : c = d) : Ending.returned (.tuple #[.int .i64 a, .int .i64 c]) = .returned (.tuple #[.int .i64 b, .int .i64 d]) := by rw [h, h2]
theorem ceil_int {u q : Int} (hu : 0 ≤ u) (hq : 1 ≤ q) : (u + q - 1).tdiv q = (ceilN u.toNat q.toNat : Int) := by
  unfold ceilN
  obtain ⟨a, rfl⟩ := Int.eq_ofNat_of_zero_le hu
  obtain ⟨b, rfl⟩ := Int.eq_ofNat_of_zero_le (show 0 ≤ q by omega)
  rw [show ((a : Int) + (b : Int) - 1) = ((a + b - 1 : Nat) : Int) by omega, ← Int.ofNat_tdiv]
  rfl

theorem below_dq {B : Nat} {a w : World} (h : Below B a w) (n : Nat) : Below B a (w.drewN n) := ⟨h.os, h.tape, h.output, h.size, h.block⟩
end Go.Proofs.Ytcjceecdcjjnfaa.Ck
