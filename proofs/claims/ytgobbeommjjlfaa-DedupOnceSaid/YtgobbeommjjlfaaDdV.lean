/- Lists of ranges in memory; walks: identities, ranges that stand apart, equality. -/
import Derived.Test.YtgobbeommjjlfaaDdM
import Derived.Test.YtgobbeommjjlfaaLawKit
import Derived.Laws.StructEq
import Derived.Laws.OwnMore
import Derived.Deep.AppendLies
import Derived.Deep.Draws
import Derived.Deep.QuietTactic
import Derived.BigQuiet
import Derived.Below
import Derived.Lib.Hide
import Derived.Lib.QuietBelow
namespace Go.Proofs.Ytgobbeommjjlfaa
open Go.RowKit

/-- Block g is the cells cs. -/
def Blk (w : World) (g : Nat) (t : TypeId) (cs : Array Value) : Prop := w.heap[g]? = some (.cells cs t (0, 0))
section
variable {w w' : World} {g : Nat} {t : TypeId} {cs : Array Value}
theorem Blk.lt (h : Blk w g t cs) : g < w.heap.size := by
  rcases Nat.lt_or_ge g w.heap.size with hlt | hge
  · exact hlt
  · unfold Blk at h; rw [Array.getElem?_eq_none hge] at h; cases h
theorem Blk.cell (h : Blk w g t cs) (i : Nat) : w.cell? ⟨g, i, none⟩ = cs[i]? := cell_of_row w g i cs t (0, 0) h
theorem Blk.frozen (h : Blk w g t cs) (i : Nat) : w.frozen? ⟨g, i, none⟩ = false := by
  unfold Blk at h
  simp [World.frozen?, h]
theorem Blk.new (w : World) (t : TypeId) (cs : Array Value) : Blk (w.alloc (.cells cs t)) w.heap.size t cs := heap_alloc_new w _
theorem Blk.drew (h : Blk w g t cs) : Blk w.drew g t cs := h
theorem Blk.drewN (h : Blk w g t cs) (n : Nat) : Blk (w.drewN n) g t cs := h
theorem Blk.alloc (h : Blk w g t cs) (o : Obj) : Blk (w.alloc o) g t cs := (Below.heap_alloc w o g h.lt).trans h
theorem Blk.set_ (h : Blk w g t cs) (i : Nat) (u : Value) : Blk (w.setCell ⟨g, i, none⟩ u) g t (cs.setIfInBounds i u) := by
  unfold Blk at h ⊢
  simp [World.setCell, Array.getElem?_modify, h]
theorem Blk.far (h : Blk w g t cs) {p : Addr} (hp : g ≠ p.block) (u : Value) : Blk (w.setCell p u) g t cs := (Below.heap_setCell w p u g hp).trans h
theorem Blk.below {B : Nat} (h : Blk w g t cs) (hb : Below B w w') (hg : g < B) : Blk w' g t cs := (hb.block g hg).trans h
theorem Blk.grown {row : Option Nat} (h : Blk w g t cs) (hb : w.grownBy w' row) (hg : some g ≠ row) : Blk w' g t cs := (hb.block g h.lt hg).trans h
theorem Blk.one {x : Value} (h : Blk w g t #[x]) : w.cell? ⟨g, 0, none⟩ = some x := h.cell 0
theorem Blk.two {x y : Value} (h : Blk w g t #[x, y]) : w.cell? ⟨g, 0, none⟩ = some x ∧ w.cell? ⟨g, 1, none⟩ = some y := ⟨h.cell 0, h.cell 1⟩
theorem Blk.three {x y z : Value} (h : Blk w g t #[x, y, z]) : w.cell? ⟨g, 0, none⟩ = some x ∧ w.cell? ⟨g, 1, none⟩ = some y ∧ w.cell? ⟨g, 2, none⟩ = some z := ⟨h.cell 0, h.cell 1, h.cell 2⟩
end
theorem ret_int {k : IntKind} {a b : Int} (h : a = b) : Ending.returned (.int k a) = .returned (.int k b) := by rw [h]
theorem ret_bool {a b : Bool} (h : a = b) : Ending.returned (.bool a) = .returned (.bool b) := by rw [h]
theorem below_drewN {B : Nat} {a w : World} (h : Below B a w) (n : Nat) : Below B a (w.drewN n) := ⟨h.os, h.tape, h.output, h.size, h.block⟩
theorem drew_below {w w1 : World} (h : Below w.drew.heap.size w.drew w1) : Below w.heap.size w w1 := ⟨h.os, h.tape, h.output, h.size, h.block⟩
theorem drewN_below {w w1 : World} {n : Nat} (h : Below (w.drewN n).heap.size (w.drewN n) w1) : Below w.heap.size w w1 := ⟨h.os, h.tape, h.output, h.size, h.block⟩

/-- The value of a range. -/
def rgv (r : Rg) : Array Value := #[.int .i64 r.1, .int .i64 r.2.1, .int .i64 r.2.2]
/-- The cells of a list of ranges. -/
def rcl (l : List Rg) : List Value := l.flatMap fun r => [.int .i64 r.1, .int .i64 r.2.1, .int .i64 r.2.2]
theorem rcl_len (l : List Rg) : (rcl l).length = l.length * 3 := by
  induction l with
  | nil => rfl
  | cons r l ih => rw [rcl, List.flatMap_cons, List.length_append]; rw [rcl] at ih; rw [ih]; simp; omega
theorem rcl_app (l m : List Rg) : rcl (l ++ m) = rcl l ++ rcl m := List.flatMap_append
theorem rcl_cons (r : Rg) (l : List Rg) : rcl (r :: l) = .int .i64 r.1 :: .int .i64 r.2.1 :: .int .i64 r.2.2 :: rcl l := rfl
theorem rcl_at : ∀ {l : List Rg} {k : Nat}, k < l.length → (rcl l)[k * 3]? = some (.int .i64 (l.getD k rg0).1) ∧ (rcl l)[k * 3 + 1]? = some (.int .i64 (l.getD k rg0).2.1) ∧ (rcl l)[k * 3 + 2]? = some (.int .i64 (l.getD k rg0).2.2)
  | [], k, h => absurd h (Nat.not_lt_zero k)
  | r :: l, 0, _ => ⟨rfl, rfl, rfl⟩
  | r :: l, k + 1, h => by
    have := rcl_at (l := l) (k := k) (by simpa using h)
    rw [rcl_cons, show (k + 1) * 3 = k * 3 + 1 + 1 + 1 by omega, show k * 3 + 1 + 1 + 1 + 1 = k * 3 + 1 + 1 + 1 + 1 from rfl]
    simpa using this
theorem rcl_one (l : List Rg) : ∀ v ∈ rcl l, v.oneCell' = true := by
  intro v hv
  obtain ⟨r, _, h⟩ := List.mem_flatMap.1 hv
  simp at h
  rcases h with rfl | rfl | rfl <;> rfl
/-- A slice that reads as a list of ranges. -/
def RgR (w : World) (A : Option Addr) (l : List Rg) : Prop :=
  ∀ k, k < l.length → ∃ b off, A = some ⟨b, off, none⟩ ∧ b < w.heap.size ∧ w.cell? ⟨b, off + k * 3, none⟩ = some (.int .i64 (l.getD k rg0).1) ∧ w.cell? ⟨b, off + k * 3 + 1, none⟩ = some (.int .i64 (l.getD k rg0).2.1) ∧ w.cell? ⟨b, off + k * 3 + 2, none⟩ = some (.int .i64 (l.getD k rg0).2.2)
theorem RgR.below {w w' : World} {A : Option Addr} {l : List Rg} (h : RgR w A l) (hb : Below w.heap.size w w') : RgR w' A l := fun k hk => by
  obtain ⟨b, off, e, h1, h2, h3, h4⟩ := h k hk
  exact ⟨b, off, e, Nat.lt_of_lt_of_le h1 hb.size, (hb.cell (p := ⟨b, off + k * 3, none⟩) h1).trans h2, (hb.cell (p := ⟨b, off + k * 3 + 1, none⟩) h1).trans h3, (hb.cell (p := ⟨b, off + k * 3 + 2, none⟩) h1).trans h4⟩
theorem RgR.nil {w : World} {A : Option Addr} : RgR w A [] := fun k hk => absurd hk (Nat.not_lt_zero k)
/-- What the call owns reads as a list. -/
theorem rg_own {w : World} {base n : Nat} {v : Value} {l : List Rg} (h : w.ownsRow base 44 3 v n (rcl l)) (hn : l.length = n) : ∃ A c, v = .slice A n c ∧ n ≤ c ∧ c ≤ maxLen ∧ RgR w A l := by
  rcases h.2 with ⟨rfl, rfl⟩ | ⟨g, cap, cur, rfl, hb, hg, hnc, hcm, hcs, htake⟩
  · obtain rfl : l = [] := by simpa using hn
    exact ⟨none, 0, rfl, Nat.le_refl _, Nat.zero_le _, RgR.nil⟩
  · refine ⟨_, cap, rfl, hnc, hcm, fun k hk => ?_⟩
    have hlt : g < w.heap.size := (Array.getElem?_eq_some_iff.1 hg).1
    obtain ⟨a1, a2, a3⟩ := rcl_at hk
    rw [← htake] at a1 a2 a3
    have hat : ∀ j v, (cur.toList.take (n * 3))[j]? = some v → w.cell? ⟨g, j, none⟩ = some v := fun j v hj => by
      rw [cell_of_row w g j cur _ (0, 0) hg]
      rw [List.getElem?_take] at hj
      split at hj
      · simpa using hj
      · cases hj
    refine ⟨g, 0, rfl, hlt, ?_, ?_, ?_⟩
    · rw [Nat.zero_add]; exact hat _ _ a1
    · rw [Nat.zero_add]; exact hat _ _ a2
    · rw [Nat.zero_add]; exact hat _ _ a3

theorem neqRange (a b c x y z : Int) (w : World) : (binOp .neq 44 (.agg #[.int .i64 a, .int .i64 b, .int .i64 c]) (.agg #[.int .i64 x, .int .i64 y, .int .i64 z])).run Try.prog w = .ok (.bool (!(a == x && b == y && c == z))) w := by
  have u3 := Try.underlying3
  have a3 := Try.isAgg3
  have z3 := Try.sizeOf3
  have hS : Try.prog.underlying 44 = some (.struct (Try.prog.fieldsOf 44)) := by kernel_rfl
  have hp : Try.prog.stoodInHeld 44 = false := by kernel_rfl
  rw [run_neq_struct, show (10000 : Nat) = 9999 + 1 from rfl, run_equalIn_agg w 9999 44 _ _ hS hp]
  simp only [Program.fieldsOf, Try.underlying44]
  go_simp
  by_cases h1 : a = x <;> by_cases h2 : b = y <;> by_cases h3 : c = z <;> simp [h1, h2, h3]
theorem eqRange (a b c x y z : Int) (w : World) : (binOp .eql 44 (.agg #[.int .i64 a, .int .i64 b, .int .i64 c]) (.agg #[.int .i64 x, .int .i64 y, .int .i64 z])).run Try.prog w = .ok (.bool (a == x && b == y && c == z)) w := by
  have u3 := Try.underlying3
  have a3 := Try.isAgg3
  have z3 := Try.sizeOf3
  have hS : Try.prog.underlying 44 = some (.struct (Try.prog.fieldsOf 44)) := by kernel_rfl
  have hp : Try.prog.stoodInHeld 44 = false := by kernel_rfl
  rw [run_eql_struct, show (10000 : Nat) = 9999 + 1 from rfl, run_equalIn_agg w 9999 44 _ _ hS hp]
  simp only [Program.fieldsOf, Try.underlying44]
  go_simp
  by_cases h1 : a = x <;> by_cases h2 : b = y <;> by_cases h3 : c = z <;> simp [h1, h2, h3]
theorem guardRange : Try.prog.eqGuardType Try.prog.depth 44 = false := by kernel_rfl

theorem ident_any (s x : Int) (w : World) : Calls Try.prog 27 #[.int .i64 s, .int .i64 x] w fun e w' => e = .returned (.bool (idB s x)) ∧ w = w' := by
  unfold idB
  by_cases h1 : 1 ≤ s <;> by_cases h2 : s ≤ 99 <;> by_cases h3 : 1 ≤ x <;> by_cases h4 : x ≤ 999999999
  all_goals
    simp only [h1, h2, h3, h4, decide_true, decide_false, Bool.and_true, Bool.and_false, Bool.true_and, Bool.false_and]
    go_enter Try.func27, Try.ntmps27
    go_wp2
    go_ret
    exact ⟨rfl, rfl⟩
theorem refIdent_any (s x : Int) (w : World) : Calls Try.prog 29 #[.int .i64 s, .int .i64 x] w fun e w' => e = .returned (.bool (idB s x)) ∧ w = w' := by
  unfold idB
  by_cases h1 : 1 ≤ s <;> by_cases h2 : s ≤ 99 <;> by_cases h3 : 1 ≤ x <;> by_cases h4 : x ≤ 999999999
  all_goals
    simp only [h1, h2, h3, h4, decide_true, decide_false, Bool.and_true, Bool.and_false, Bool.true_and, Bool.false_and]
    go_enter Try.func29, Try.ntmps29
    go_wp2
    go_ret
    exact ⟨rfl, rfl⟩
theorem ident_is {s x : Int} {v : Bool} (h : idB s x = v) (w : World) : Calls Try.prog 27 #[.int .i64 s, .int .i64 x] w fun e w' => e = .returned (.bool v) ∧ w = w' := by
  subst h; exact ident_any s x w
theorem refIdent_is {s x : Int} {v : Bool} (h : idB s x = v) (w : World) : Calls Try.prog 29 #[.int .i64 s, .int .i64 x] w fun e w' => e = .returned (.bool v) ∧ w = w' := by
  subst h; exact refIdent_any s x w
theorem apart_any (a b c x y z : Int) (hc : -9223372036854775808 ≤ c) (hc2 : c ≤ 9223372036854775806) (w : World) : Calls Try.prog 28 #[.agg #[.int .i64 a, .int .i64 b, .int .i64 c], .agg #[.int .i64 x, .int .i64 y, .int .i64 z]] w fun e w' => e = .returned (.bool (apt (a, b, c) (x, y, z))) ∧ Below w.heap.size w w' := by
  have hf : Below w.heap.size w ((w.alloc (.cells #[.int .i64 a, .int .i64 b, .int .i64 c] 44)).alloc (.cells #[.int .i64 x, .int .i64 y, .int .i64 z] 44)) := ((Below.refl _ w).alloc (Nat.le_refl _) _).alloc (by simp) _
  show Calls _ _ _ _ fun e w' => e = .returned (.bool (decide (a < x) || (decide (a = x) && decide (c + 1 < y)))) ∧ _
  by_cases h1 : a < x
  · have d1 : decide (a < x) = true := decide_eq_true h1
    rw [d1]
    go_enter Try.func28, Try.ntmps28
    go_wp2
    go_ret
    exact ⟨rfl, hf⟩
  · have d1 : decide (a < x) = false := decide_eq_false h1
    by_cases h2 : a = x
    · subst h2
      by_cases h3 : c + 1 < y
      · have d3 : decide (c + 1 < y) = true := decide_eq_true h3
        rw [d1, d3, decide_eq_true rfl]
        go_enter Try.func28, Try.ntmps28
        go_wp2
        go_ret
        exact ⟨rfl, hf⟩
      · have d3 : decide (c + 1 < y) = false := decide_eq_false h3
        rw [d1, d3]
        go_enter Try.func28, Try.ntmps28
        go_wp2
        go_ret
        exact ⟨by simp, hf⟩
    · have d2 : (a == x) = false := by simp [h2]
      rw [d1, decide_eq_false h2]
      go_enter Try.func28, Try.ntmps28
      go_wp2
      go_ret
      exact ⟨rfl, hf⟩
theorem apart_is {a b c x y z : Int} {v : Bool} (hv : apt (a, b, c) (x, y, z) = v) (hc : -9223372036854775808 ≤ c) (hc2 : c ≤ 9223372036854775806) (w : World) : Calls Try.prog 28 #[.agg #[.int .i64 a, .int .i64 b, .int .i64 c], .agg #[.int .i64 x, .int .i64 y, .int .i64 z]] w fun e w' => e = .returned (.bool v) ∧ Below w.heap.size w w' := by
  subst hv; exact apart_any a b c x y z hc hc2 w
end Go.Proofs.Ytgobbeommjjlfaa
