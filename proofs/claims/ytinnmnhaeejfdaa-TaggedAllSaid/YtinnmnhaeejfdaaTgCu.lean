/- Bytes that are cut into records by their lengths. -/
import Derived.Test.YtinnmnhaeejfdaaTgTw
import Derived.Test.YtinnmnhaeejfdaaTgDecM
namespace Go.Proofs.Ytinnmnhaeejfdaa.Va
open Go.RowKit

/-- Where the record at p ends. -/
def nx (l : List Int) (p : Nat) : Nat := p + 2 + (l.getD p 0 * 256 + l.getD (p + 1) 0).toNat
/-- The parts from p on, and whether the last is whole. -/
def cutL : Nat → List Int → Nat → List (Nat × Nat) × Bool
  | 0, _, _ => ([], true)
  | f + 1, l, p => if l.length ≤ p then ([], true) else if l.length < p + 2 ∨ l.length < nx l p then ([], false) else ((p, nx l p) :: (cutL f l (nx l p)).1, (cutL f l (nx l p)).2)
def allC (l : List Int) : List (Nat × Nat) := (cutL (l.length + 1) l 0).1
def allK (l : List Int) : Bool := (cutL (l.length + 1) l 0).2
def prt (l : List Int) (a : Nat × Nat) : List Int := (l.drop a.1).take (a.2 - a.1)
/-- No block. -/
def NoB : Nat → Prop := fun _ => False
def allE (l : List Int) (j : Nat) : Int := (decR (prt l ((allC l).getD j (0, 0)))).2
def allD (l : List Int) : List Rc := (allC l).map fun a => (decR (prt l a)).1
def allX (l : List Int) : Int := if allK l = true then 0 else 2
def allN (l : List Int) : Nat := if allK l = true then (allC l).length else 0
def AllOut (l : List Int) (w : World) (e : Ending) (w' : World) : Prop :=
  ∃ v u, e = .returned (.tuple #[v, u, .int .i64 (allX l)]) ∧ Two w NoB (allD l) (allE l) (allN l) v u NoB w'
theorem all_at {l : List Int} {k : Nat} {a : Nat × Nat} (h : (allC l)[k]? = some a) : decR (prt l a) = ((allD l).getD k rc0, allE l k) := by
  unfold allD allE
  rw [List.getD_eq_getElem?_getD, List.getElem?_map, h, List.getD_eq_getElem?_getD, h]
  rfl
/-- k parts are cut, up to p. -/
structure Cut (l : List Int) (C : List (Nat × Nat)) (ok : Bool) (k p : Nat) : Prop where
  ex : ∃ f, l.length - p < f ∧ C.drop k = (cutL f l p).1 ∧ ok = (cutL f l p).2
  two : 2 * k ≤ p
  pn : p ≤ l.length
  kc : k ≤ C.length
theorem Cut.start (l : List Int) : Cut l (allC l) (allK l) 0 0 := ⟨⟨l.length + 1, by omega, rfl, rfl⟩, by omega, by omega, by omega⟩
theorem Cut.stop {l : List Int} {C : List (Nat × Nat)} {ok : Bool} {k p : Nat} (h : Cut l C ok k p) (hp : l.length ≤ p) : ok = true ∧ C.length = k := by
  obtain ⟨f, hf, h1, h2⟩ := h.ex
  cases f with
  | zero => omega
  | succ f =>
    rw [cutL, if_pos hp] at h1 h2
    have := List.drop_eq_nil_iff.1 h1
    have := h.kc
    exact ⟨h2, by omega⟩
theorem Cut.bad {l : List Int} {C : List (Nat × Nat)} {ok : Bool} {k p : Nat} (h : Cut l C ok k p) (hp : p < l.length) (hb : l.length < p + 2 ∨ l.length < nx l p) : ok = false := by
  obtain ⟨f, hf, h1, h2⟩ := h.ex
  cases f with
  | zero => omega
  | succ f =>
    rw [cutL, if_neg (by omega), if_pos hb] at h2
    exact h2
theorem Cut.step {l : List Int} {C : List (Nat × Nat)} {ok : Bool} {k p : Nat} (h : Cut l C ok k p) (hp : p < l.length) (h2 : p + 2 ≤ l.length) (hn : nx l p ≤ l.length) : C[k]? = some (p, nx l p) ∧ Cut l C ok (k + 1) (nx l p) := by
  obtain ⟨f, hf, h1, h3⟩ := h.ex
  have hnx : p + 2 ≤ nx l p := by unfold nx; omega
  cases f with
  | zero => omega
  | succ f =>
    rw [cutL, if_neg (by omega), if_neg (by omega)] at h1 h3
    have hat : C[k]? = some (p, nx l p) := by
      have := congrArg (fun z => z[0]?) h1
      simpa [List.getElem?_drop] using this
    have hk : k < C.length := (List.getElem?_eq_some_iff.1 hat).1
    refine ⟨hat, ⟨f, by omega, ?_, h3⟩, by have := h.two; omega, hn, hk⟩
    have := congrArg List.tail h1
    simpa [List.tail_drop] using this
theorem cut_mem : ∀ (f : Nat) (l : List Int) (p : Nat), p ≤ l.length → ((cutL f l p).1.length * 2 + p ≤ l.length) ∧ ∀ (k : Nat) (a : Nat × Nat), (cutL f l p).1[k]? = some a → a.1 + 2 ≤ a.2 ∧ a.2 ≤ l.length
  | 0, l, p, hp => ⟨by simp [cutL, hp], fun k a h => by simp [cutL] at h⟩
  | f + 1, l, p, hp => by
    rw [cutL]
    by_cases h1 : l.length ≤ p
    · rw [if_pos h1]; exact ⟨by simp [hp], fun k a h => by simp at h⟩
    · rw [if_neg h1]
      by_cases h2 : l.length < p + 2 ∨ l.length < nx l p
      · rw [if_pos h2]; exact ⟨by simp [hp], fun k a h => by simp at h⟩
      · rw [if_neg h2]
        have hnx : p + 2 ≤ nx l p := by unfold nx; omega
        obtain ⟨i1, i2⟩ := cut_mem f l (nx l p) (by omega)
        refine ⟨by simp only [List.length_cons]; omega, fun k a h => ?_⟩
        cases k with
        | zero =>
          have : (p, nx l p) = a := by simpa using h
          subst this
          exact ⟨hnx, by omega⟩
        | succ k => exact i2 k a (by simpa using h)
theorem cut_all {l : List Int} (h : l.length ≤ 3000) : (allC l).length ≤ 1500 ∧ ∀ (k : Nat) (a : Nat × Nat), (allC l)[k]? = some a → a.1 + 2 ≤ a.2 ∧ a.2 ≤ l.length := by
  obtain ⟨h1, h2⟩ := cut_mem (l.length + 1) l 0 (Nat.zero_le _)
  exact ⟨by unfold allC; omega, h2⟩
theorem nx_is {l : List Int} {p : Nat} {x y : Int} (h0 : l[p]? = some x) (h1 : l[p + 1]? = some y) (hx : 0 ≤ x) (hy : 0 ≤ y) : ((nx l p : Nat) : Int) = (p : Int) + 2 + x * 256 + y := by
  unfold nx
  rw [List.getD_eq_getElem?_getD, List.getD_eq_getElem?_getD, h0, h1]
  simp only [Option.getD_some]
  omega
theorem two_nil (w : World) (D : List Rc) (E : Nat → Int) : Two w NoB D E 0 (.slice none 0 0) (.slice none 0 0) NoB w :=
  ⟨World.ownsRow_nil _ _ _ _, World.ownsRow_nil _ _ _ _, by simp [Value.ownBlock], by simp [Value.ownBlock], by simp [Value.ownBlock], fun b hb => hb.elim, fun b hb => hb.elim, Chg.refl _ _⟩
theorem two_below {w wr : World} {D : List Rc} {E : Nat → Int} {k : Nat} {v u : Value} (h : Two w NoB D E k v u NoB wr) : Below w.heap.size w wr :=
  ⟨h.ch.os, h.ch.tape, h.ch.output, h.ch.size, fun q hq => h.ch.block q hq id⟩
theorem allOut_bad {l : List Int} {w w' : World} {e : Ending} (hk : allK l = false) (he : e = .returned (.tuple #[.slice none 0 0, .slice none 0 0, .int .i64 2])) (hb : Below w.heap.size w w') : AllOut l w e w' := by
  have hX : allX l = 2 := by unfold allX; rw [hk]; rfl
  have hN : allN l = 0 := by unfold allN; rw [hk]; rfl
  refine ⟨_, _, by rw [hX]; exact he, ?_⟩
  rw [hN]
  exact (two_nil w _ _).chg (chg_below hb) (F1 := NoB) (fun _ h => h.elim) (fun _ h => h.elim)
theorem allOut_good {l : List Int} {w w' : World} {e : Ending} {k : Nat} {v u : Value} (hk : allK l = true) (hC : (allC l).length = k) (he : e = .returned (.tuple #[v, u, .int .i64 0])) (ht : Two w NoB (allD l) (allE l) k v u NoB w') : AllOut l w e w' := by
  have hX : allX l = 0 := by unfold allX; rw [hk]; rfl
  have hN : allN l = k := by unfold allN; rw [hk]; exact hC
  exact ⟨v, u, by rw [hX]; exact he, by rw [hN]; exact ht⟩
end Go.Proofs.Ytinnmnhaeejfdaa.Va
