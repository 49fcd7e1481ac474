/- Walks: whole units of a number, rounded and rounded down. -/
import Derived.Test.YtopngdjhnljmfaaDoorAmtAddG
import Derived.Test.YtopngdjhnljmfaaDoorAmtV
namespace Go.Proofs.YtopngdjhnljmfaaDoor
open Go.RowKit

theorem tq (a : Int) : 10000 * a.tdiv 10000 + a.tmod 10000 = a ∧ (0 ≤ a → 0 ≤ a.tmod 10000 ∧ a.tmod 10000 < 10000) ∧ (a < 0 → -10000 < a.tmod 10000 ∧ a.tmod 10000 ≤ 0) := by
  refine ⟨Int.mul_tdiv_add_tmod a 10000, fun h => ⟨Int.tmod_nonneg _ h, Int.tmod_lt_of_pos _ (by decide)⟩, fun h => ?_⟩
  have e : a.tmod 10000 = -((-a).tmod 10000) := by rw [Int.neg_tmod, Int.neg_neg]
  have h1 := Int.tmod_nonneg 10000 (show 0 ≤ -a by omega)
  have h2 := Int.tmod_lt_of_pos (-a) (show (0 : Int) < 10000 by decide)
  omega
def rndV (a : Int) : Int := if 5000 ≤ a.tmod 10000 then a.tdiv 10000 + 1 else if a.tmod 10000 ≤ -5000 then a.tdiv 10000 - 1 else a.tdiv 10000
set_option maxHeartbeats 1000000 in
theorem rounded_any (a : Int) (ha : -9223372036854775808 ≤ a ∧ a ≤ 9223372036854775807) (w : World) :
    Calls Tryd.prog 28 #[.int .i64 a] w fun e w' => e = .returned (.int .i64 (rndV a)) ∧ w = w' := by
  obtain ⟨q1, q2, q3⟩ := tq a
  have hb1 : -922337203685477 ≤ a.tdiv 10000 ∧ a.tdiv 10000 ≤ 922337203685477 := by omega
  have hb2 : -10000 < a.tmod 10000 ∧ a.tmod 10000 < 10000 := by omega
  by_cases h1 : 5000 ≤ a.tmod 10000
  · have e : rndV a = a.tdiv 10000 + 1 := by unfold rndV; rw [if_pos h1]
    rw [e]
    go_enter Tryd.func28, Tryd.ntmps28
    go_wp2
    go_ret
    exact ⟨rfl, rfl⟩
  · by_cases h2 : a.tmod 10000 ≤ -5000
    · have e : rndV a = a.tdiv 10000 - 1 := by unfold rndV; rw [if_neg h1, if_pos h2]
      rw [e]
      go_enter Tryd.func28, Tryd.ntmps28
      go_wp2
      go_ret
      exact ⟨rfl, rfl⟩
    · have e : rndV a = a.tdiv 10000 := by unfold rndV; rw [if_neg h1, if_neg h2]
      rw [e]
      go_enter Tryd.func28, Tryd.ntmps28
      go_wp2
      go_ret
      exact ⟨rfl, rfl⟩
set_option maxHeartbeats 1000000 in
theorem floor_any (a : Int) (ha : -1125899906842624 ≤ a ∧ a ≤ 1125899906842624) (w : World) :
    Calls Tryd.prog 29 #[.int .i64 a] w fun e w' => e = .returned (.tuple #[.int .i64 (a / 10000), .int .i64 (a % 10000)]) ∧ w = w' := by
  obtain ⟨q1, q2, q3⟩ := tq a
  have hb1 : -922337203685477 ≤ a.tdiv 10000 ∧ a.tdiv 10000 ≤ 922337203685477 := by omega
  have hb2 : -10000 < a.tmod 10000 ∧ a.tmod 10000 < 10000 := by omega
  by_cases h1 : a.tmod 10000 < 0
  · have e1 : a / 10000 = a.tdiv 10000 - 1 := by omega
    have e2 : a % 10000 = a.tmod 10000 + 10000 := by omega
    rw [e1, e2]
    clear e1 e2 q1 q2 q3
    go_enter Tryd.func29, Tryd.ntmps29
    go_wp2
    go_ret2
    exact ⟨rfl, rfl⟩
  · have e1 : a / 10000 = a.tdiv 10000 := by omega
    have e2 : a % 10000 = a.tmod 10000 := by omega
    rw [e1, e2]
    clear e1 e2 q1 q2 q3
    go_enter Tryd.func29, Tryd.ntmps29
    go_wp2
    go_ret2
    exact ⟨rfl, rfl⟩
end Go.Proofs.YtopngdjhnljmfaaDoor
