/- The totals of records. -/
import Derived.Test.YtobkafkknbdacaaDoorVaB
namespace Go.Proofs.YtobkafkknbdacaaDoor.Va
open Go.RowKit

theorem below_lit (w : World) (o : Obj) : Below w.heap.size w (w.alloc o) := (Below.refl _ _).alloc (Nat.le_refl _) _
/-- Does a record count? -/
def okT (r : Rc) : Bool := decide (1 ≤ r.s2) && decide (r.s2 < 5) && decide (0 ≤ r.s6) && decide (r.s6 ≤ 1099511627776)
def t1 (r : Rc) (k : Nat) : Int := if okT r = true ∧ r.s2 = (k : Int) then r.s6 else 0
/-- The units of a kind. -/
def tt : List Rc → Nat → Int
  | [], _ => 0
  | r :: l, k => t1 r k + tt l k
theorem tt_app (l m : List Rc) (k : Nat) : tt (l ++ m) k = tt l k + tt m k := by
  induction l with
  | nil => simp [tt]
  | cons r l ih => simp only [List.cons_append, tt, ih]; omega
theorem t1_ran (r : Rc) (k : Nat) : 0 ≤ t1 r k ∧ t1 r k ≤ 1099511627776 := by
  unfold t1
  split
  · rename_i h
    have := h.1
    simp only [okT, Bool.and_eq_true, decide_eq_true_eq] at this
    omega
  · omega
theorem tt_ran : ∀ (l : List Rc) (k : Nat), 0 ≤ tt l k ∧ tt l k ≤ (l.length : Int) * 1099511627776
  | [], _ => by simp [tt]
  | r :: l, k => by
    have h1 := t1_ran r k
    have h2 := tt_ran l k
    simp only [tt, List.length_cons]
    omega
theorem take_snoc {l : List Rc} {k : Nat} (h : k < l.length) : l.take (k + 1) = l.take k ++ [l.getD k rc0] := by
  rw [← List.take_append_getElem h, List.getD_eq_getElem?_getD, List.getElem?_eq_getElem h]
  rfl
theorem tt_step {l : List Rc} {j : Nat} (h : j < l.length) (k : Nat) : tt (l.take (j + 1)) k = tt (l.take j) k + t1 (l.getD j rc0) k := by
  rw [take_snoc h, tt_app]
  simp [tt]
/-- The totals as a value. -/
def totC (n : Nat) (f : Nat → Int) : Array Value := #[.int .i64 (n : Int), .int .i64 (f 0), .int .i64 (f 1), .int .i64 (f 2), .int .i64 (f 3), .int .i64 (f 4)]
theorem tot_no {n : Nat} {l : List Rc} {j : Nat} (h : j < l.length) (hn : okT (l.getD j rc0) = false) : totC n (tt (l.take (j + 1))) = totC n (tt (l.take j)) := by
  have h0 : ∀ k, tt (l.take (j + 1)) k = tt (l.take j) k := fun k => by
    rw [tt_step h]
    unfold t1
    rw [hn]
    simp
  simp only [totC, h0]
theorem tot_yes {n : Nat} {l : List Rc} {j q : Nat} (h : j < l.length) (hy : okT (l.getD j rc0) = true) (hq : (l.getD j rc0).s2 = (q : Int)) :
    totC n (tt (l.take (j + 1))) = (totC n (tt (l.take j))).setIfInBounds (1 + q) (.int .i64 (tt (l.take j) q + (l.getD j rc0).s6)) := by
  have hb : 1 ≤ q ∧ q < 5 := by
    simp only [okT, Bool.and_eq_true, decide_eq_true_eq] at hy
    omega
  have h0 : ∀ k : Nat, tt (l.take (j + 1)) k = if k = q then tt (l.take j) k + (l.getD j rc0).s6 else tt (l.take j) k := fun k => by
    rw [tt_step h]
    unfold t1
    rw [hy, hq]
    by_cases hk : k = q
    · rw [if_pos hk, if_pos ⟨rfl, by omega⟩]
    · rw [if_neg hk, if_neg (fun hh => hk (by omega))]; omega
  have hc : q = 1 ∨ q = 2 ∨ q = 3 ∨ q = 4 := by omega
  simp only [totC, h0]
  rcases hc with rfl | rfl | rfl | rfl <;> rfl
theorem tot_at {n : Nat} {f : Nat → Int} {q : Nat} (h : q < 5) : (totC n f)[1 + q]? = some (.int .i64 (f q)) := by
  have hc : q = 0 ∨ q = 1 ∨ q = 2 ∨ q = 3 ∨ q = 4 := by omega
  rcases hc with rfl | rfl | rfl | rfl | rfl <;> rfl
theorem tot_zero (n : Nat) : totC n (tt []) = #[.int .i64 (n : Int), .int .i64 0, .int .i64 0, .int .i64 0, .int .i64 0, .int .i64 0] := rfl
end Go.Proofs.YtobkafkknbdacaaDoor.Va
