/- Walk: the law on lengths. -/
import Derived.Test.YtobkafkknbdacaaDoorBaL
import Derived.Test.YtobkafkknbdacaaDoorVaRs
import Derived.Test.YtobkafkknbdacaaDoorRcArg
import Derived.OwnWalk
import Derived.Lib.SmallJoins
namespace Go.Proofs.YtobkafkknbdacaaDoor.Va
open Go.ChangeShapes Go.WideShapes Go.ChangeAt Go.RowKit Go.Deep

set_option maxRecDepth 100000 in
theorem open_batch {H : Type} {enc : TypeId × Value → H} {w : World} {base : Nat} {spare : Nat → Bool} {held : Bool} {r : Reach} {b0 : Nat} {v : Value} {d : DataW H} {p : List MemPlace}
    (hv : Value.okWide Tryd.prog w r b0 31 v) (h : DataW.Trod enc Tryd.prog w base spare held 31 v d p) : ∃ s n f A m c, v = .agg #[.int .i64 s, .int .i64 n, .int .i64 f, .slice A m c] := by
  obtain ⟨v0, v1, v2, v3, y0, y1, y2, y3, q, rfl, -, -, h0, h1, h2, h3⟩ := Go.Joins.open_agg4 Tryd.underlying31 (by kernel_rfl) (by kernel_rfl) hv h
  obtain ⟨s, rfl⟩ := int_inV h0
  obtain ⟨n, rfl⟩ := int_inV h1
  obtain ⟨f, rfl⟩ := int_inV h2
  rcases DataW.trod_slice Tryd.underlying22 h3 with ⟨e, -⟩ | ⟨a, len, cap, el, rest, k, -, e, -⟩
  · obtain rfl : v3 = .slice none 0 0 := by simpa using e
    exact ⟨_, _, _, _, _, _, rfl⟩
  · obtain rfl : v3 = .slice (some a) len cap := by simpa using e
    exact ⟨_, _, _, _, _, _, rfl⟩
def set12 (cs : Array Value) (o : Nat) (r : Rc) : Array Value := ((((((((((((cs).setIfInBounds (o) (.int .i64 r.s0)).setIfInBounds (o + 1) (.int .i64 r.s1)).setIfInBounds (o + 2) (.int .i64 r.s2)).setIfInBounds (o + 3) (.string r.sa)).setIfInBounds (o + 4) (.string r.sb)).setIfInBounds (o + 5) (.int .i64 r.s5)).setIfInBounds (o + 6) (.int .i64 r.s6)).setIfInBounds (o + 7) (.int .i64 r.s7)).setIfInBounds (o + 8) (.int .i64 r.s8)).setIfInBounds (o + 9) (.bool r.b9)).setIfInBounds (o + 10) (.int .i64 r.s10)).setIfInBounds (o + 11) (.bool r.b11)
theorem set12_size (cs : Array Value) (o : Nat) (r : Rc) : (set12 cs o r).size = cs.size := by simp [set12]
theorem set12_at {cs : Array Value} {o : Nat} {r : Rc} (h : o + 12 ≤ cs.size) : ∀ i, i < 12 → (set12 cs o r)[o + i]? = r.cells[i]? := by
  intro i hi
  have hc : i = 0 ∨ i = 1 ∨ i = 2 ∨ i = 3 ∨ i = 4 ∨ i = 5 ∨ i = 6 ∨ i = 7 ∨ i = 8 ∨ i = 9 ∨ i = 10 ∨ i = 11 := by omega
  rcases hc with rfl | rfl | rfl | rfl | rfl | rfl | rfl | rfl | rfl | rfl | rfl | rfl
  all_goals (simp [set12, Array.getElem?_setIfInBounds, Rc.cells]; try omega)
theorem set12_far {cs : Array Value} {o q : Nat} {r : Rc} (h : q < o ∨ o + 12 ≤ q) : (set12 cs o r)[q]? = cs[q]? := by
  unfold set12
  repeat rw [Array.getElem?_setIfInBounds_ne (by omega)]
theorem blk_set12 {w : World} {g : Nat} {t : TypeId} {cs : Array Value} (h : Blk w g t cs) (o : Nat) (r : Rc) : Blk (((((((((((((w).setCell ⟨g, o, none⟩ (.int .i64 r.s0)).setCell ⟨g, o + 1, none⟩ (.int .i64 r.s1)).setCell ⟨g, o + 2, none⟩ (.int .i64 r.s2)).setCell ⟨g, o + 3, none⟩ (.string r.sa)).setCell ⟨g, o + 4, none⟩ (.string r.sb)).setCell ⟨g, o + 5, none⟩ (.int .i64 r.s5)).setCell ⟨g, o + 6, none⟩ (.int .i64 r.s6)).setCell ⟨g, o + 7, none⟩ (.int .i64 r.s7)).setCell ⟨g, o + 8, none⟩ (.int .i64 r.s8)).setCell ⟨g, o + 9, none⟩ (.bool r.b9)).setCell ⟨g, o + 10, none⟩ (.int .i64 r.s10)).setCell ⟨g, o + 11, none⟩ (.bool r.b11)) g t (set12 cs o r) :=
  ((((((((((((h).set_ (o) (.int .i64 r.s0)).set_ (o + 1) (.int .i64 r.s1)).set_ (o + 2) (.int .i64 r.s2)).set_ (o + 3) (.string r.sa)).set_ (o + 4) (.string r.sb)).set_ (o + 5) (.int .i64 r.s5)).set_ (o + 6) (.int .i64 r.s6)).set_ (o + 7) (.int .i64 r.s7)).set_ (o + 8) (.int .i64 r.s8)).set_ (o + 9) (.bool r.b9)).set_ (o + 10) (.int .i64 r.s10)).set_ (o + 11) (.bool r.b11)
/-- The first k records of a block are r. -/
structure Fil (w : World) (g N k : Nat) (r : Rc) : Prop where
  ex : ∃ cs : Array Value, cs.size = N * 12 ∧ Blk w g 33 cs ∧ ∀ j, j < k → ∀ i, i < 12 → cs[j * 12 + i]? = r.cells[i]?
theorem Fil.lt {w : World} {g N k : Nat} {r : Rc} (h : Fil w g N k r) : g < w.heap.size := by
  obtain ⟨cs, -, h2, -⟩ := h.ex
  exact h2.lt
theorem Fil.step {w : World} {g N k : Nat} {r : Rc} (h : Fil w g N k r) (hk : k < N) (o : Nat) (ho : o = k * 12) : Fil (((((((((((((w).setCell ⟨g, o, none⟩ (.int .i64 r.s0)).setCell ⟨g, o + 1, none⟩ (.int .i64 r.s1)).setCell ⟨g, o + 2, none⟩ (.int .i64 r.s2)).setCell ⟨g, o + 3, none⟩ (.string r.sa)).setCell ⟨g, o + 4, none⟩ (.string r.sb)).setCell ⟨g, o + 5, none⟩ (.int .i64 r.s5)).setCell ⟨g, o + 6, none⟩ (.int .i64 r.s6)).setCell ⟨g, o + 7, none⟩ (.int .i64 r.s7)).setCell ⟨g, o + 8, none⟩ (.int .i64 r.s8)).setCell ⟨g, o + 9, none⟩ (.bool r.b9)).setCell ⟨g, o + 10, none⟩ (.int .i64 r.s10)).setCell ⟨g, o + 11, none⟩ (.bool r.b11)) g N (k + 1) r := by
  obtain ⟨cs, h1, h2, h3⟩ := h.ex
  refine ⟨_, by rw [set12_size]; exact h1, blk_set12 h2 o r, fun j hj i hi => ?_⟩
  subst ho
  by_cases hjk : j = k
  · subst hjk
    exact set12_at (by omega) i hi
  · rw [set12_far (by omega)]
    exact h3 j (by omega) i hi
theorem Fil.cellv {w : World} {g N k : Nat} {r : Rc} (h : Fil w g N k r) (hk : k < N) : ∀ i, i < 12 → ∃ v, w.cell? ⟨g, k * 12 + i, none⟩ = some v := by
  obtain ⟨cs, h1, h2, -⟩ := h.ex
  intro i hi
  rw [h2.cell]
  exact ⟨_, Array.getElem?_eq_getElem (by omega)⟩
theorem Fil.frozen {w : World} {g N k : Nat} {r : Rc} (h : Fil w g N k r) : ∀ i, w.frozen? ⟨g, i, none⟩ = false := by
  obtain ⟨cs, h1, h2, -⟩ := h.ex
  exact h2.frozen
theorem Fil.recs {w : World} {g N : Nat} {r : Rc} (h : Fil w g N N r) : RecR w (some ⟨g, 0, none⟩) (List.replicate N r) := by
  intro k hk
  have hkN : k < N := by simpa using hk
  refine ⟨g, 0, rfl, h.lt, fun i hi => ?_⟩
  obtain ⟨cs, h1, h2, h3⟩ := h.ex
  rw [h2.cell, Nat.zero_add, h3 k hkN i hi]
  congr 1
  simp [List.getD, hkN]
theorem Fil.make {w : World} {base N : Nat} {g : Nat} {xs : List Value} {r : Rc} (h : w.ownsRow base 33 12 (.slice (some ⟨g, 0, none⟩) N N) N xs) : Fil w g N 0 r := by
  rcases h.2 with ⟨e, -⟩ | ⟨g', cap, cur, e, hb, hg, hnc, hcm, hcs, htake⟩
  · injection e with e1; cases e1
  · injection e with e1 e2 e3
    injection e1 with e4
    injection e4 with e5
    subst e5 e3
    exact ⟨cur, hcs, hg, fun j hj => absurd hj (Nat.not_lt_zero j)⟩
theorem far12 {w : World} {g q : Nat} {t : TypeId} {cs : Array Value} {r : Rc} (h : Blk w q t cs) (hne : q ≠ g) (o : Nat) : Blk (((((((((((((w).setCell ⟨g, o, none⟩ (.int .i64 r.s0)).setCell ⟨g, o + 1, none⟩ (.int .i64 r.s1)).setCell ⟨g, o + 2, none⟩ (.int .i64 r.s2)).setCell ⟨g, o + 3, none⟩ (.string r.sa)).setCell ⟨g, o + 4, none⟩ (.string r.sb)).setCell ⟨g, o + 5, none⟩ (.int .i64 r.s5)).setCell ⟨g, o + 6, none⟩ (.int .i64 r.s6)).setCell ⟨g, o + 7, none⟩ (.int .i64 r.s7)).setCell ⟨g, o + 8, none⟩ (.int .i64 r.s8)).setCell ⟨g, o + 9, none⟩ (.bool r.b9)).setCell ⟨g, o + 10, none⟩ (.int .i64 r.s10)).setCell ⟨g, o + 11, none⟩ (.bool r.b11)) q t cs := by
  repeat' apply Blk.far
  all_goals first | exact h | exact hne
theorem keepO {B g : Nat} {a w : World} (h : Below B a w) (hg : B ≤ g) (r : Rc) (o : Nat) : Below B a (((((((((((((w).setCell ⟨g, o, none⟩ (.int .i64 r.s0)).setCell ⟨g, o + 1, none⟩ (.int .i64 r.s1)).setCell ⟨g, o + 2, none⟩ (.int .i64 r.s2)).setCell ⟨g, o + 3, none⟩ (.string r.sa)).setCell ⟨g, o + 4, none⟩ (.string r.sb)).setCell ⟨g, o + 5, none⟩ (.int .i64 r.s5)).setCell ⟨g, o + 6, none⟩ (.int .i64 r.s6)).setCell ⟨g, o + 7, none⟩ (.int .i64 r.s7)).setCell ⟨g, o + 8, none⟩ (.int .i64 r.s8)).setCell ⟨g, o + 9, none⟩ (.bool r.b9)).setCell ⟨g, o + 10, none⟩ (.int .i64 r.s10)).setCell ⟨g, o + 11, none⟩ (.bool r.b11)) := by
  repeat' apply Below.setCell
  all_goals first | exact h | exact hg
end Go.Proofs.YtobkafkknbdacaaDoor.Va
