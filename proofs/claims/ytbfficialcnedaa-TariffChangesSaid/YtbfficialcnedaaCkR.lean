/- Walk of the reference: Steps. -/
import Derived.Test.YtbfficialcnedaaCkS
namespace Go.Proofs.Ytbfficialcnedaa.Ck
open Go Go.Lib Go.RowKit Go.Proofs.Ytbfficialcnedaa

theorem spE_six {b : Int} {last : Bool} {s : Sp} (h : s.up < 0 ∨ 1099511627776 < s.up ∨ s.qu < 1 ∨ 1099511627776 < s.qu ∨ s.pr < 0 ∨ 1125899906842624 < s.pr) : spE b last s = 6 := by
  unfold spE spV
  rw [if_pos]
  rcases h with h | h | h | h | h | h
  · left; unfold inB; rw [decide_eq_false (show ¬ (0 : Int) ≤ s.up by omega)]; rfl
  · left; unfold inB; rw [decide_eq_false (show ¬ s.up ≤ 1099511627776 by omega), Bool.and_false]
  · right; left; unfold inB; rw [decide_eq_false (show ¬ (1 : Int) ≤ s.qu by omega)]; rfl
  · right; left; unfold inB; rw [decide_eq_false (show ¬ s.qu ≤ 1099511627776 by omega), Bool.and_false]
  · right; right; unfold inB; rw [decide_eq_false (show ¬ (0 : Int) ≤ s.pr by omega)]; rfl
  · right; right; unfold inB; rw [decide_eq_false (show ¬ s.pr ≤ 1125899906842624 by omega), Bool.and_false]
theorem spE_not {b : Int} {last z o : Bool} {s : Sp} (h0 : ¬ s.up < 0) (h1 : ¬ 1099511627776 < s.up) (h2 : ¬ s.qu < 1) (h3 : ¬ 1099511627776 < s.qu) (h4 : ¬ s.pr < 0) (h5 : ¬ 1125899906842624 < s.pr) (hz : decide (s.up = 0) = z) (ho : decide (s.up ≤ b) = o) : spE b last s = if last ≠ z then 8 else if last = false ∧ o = true then 9 else 0 := by
  unfold spE spV inB
  rw [hz, ho, decide_eq_true (show (0 : Int) ≤ s.up by omega), decide_eq_true (show s.up ≤ 1099511627776 by omega), decide_eq_true (show (1 : Int) ≤ s.qu by omega), decide_eq_true (show s.qu ≤ 1099511627776 by omega), decide_eq_true (show (0 : Int) ≤ s.pr by omega), decide_eq_true (show s.pr ≤ 1125899906842624 by omega)]
  rfl
end Go.Proofs.Ytbfficialcnedaa.Ck
