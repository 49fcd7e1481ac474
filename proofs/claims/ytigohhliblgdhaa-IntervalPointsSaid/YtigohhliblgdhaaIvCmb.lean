/- Walk of the program: the canonical list of the instants of two lists for which a condition holds. -/
import Derived.Test.YtigohhliblgdhaaIvEdg
import Derived.StillTactics
import Derived.RegionTactic
import Derived.ChangeAlike
import Derived.BigRegion
namespace Go.Proofs.Ytigohhliblgdhaa
open Go.RowKit

theorem own_far {w : World} {base e size n : Nat} {v : Value} {xs : List Value} (h : w.ownsRow base e size v n xs) {p : Addr} (hp : p.block < base) (u : Value) : (w.setCell p u).ownsRow base e size v n xs := by
  obtain ⟨h1, h2⟩ := h
  refine ⟨h1, ?_⟩
  rcases h2 with h2 | ⟨g, cap, cur, hv, hg, hh, r⟩
  · exact .inl h2
  · exact .inr ⟨g, cap, cur, hv, hg, (Below.heap_setCell w p u g (by omega)).trans hh, r⟩
theorem E_at {E : List Eg} {k : Nat} (h : k < E.length) : E.drop k = E.getD k (0, 0, 0) :: E.drop (k + 1) := by
  rw [List.drop_eq_getElem_cons h]; simp [List.getD, List.getElem?_eq_getElem h]
theorem at1_drop {E : List Eg} {k : Nat} (t : Int) (h : k < E.length) : at1 t (E.drop k) = decide ((E.getD k (0, 0, 0)).1 = t) := by
  rw [E_at h]; rfl
theorem at1_end {E : List Eg} {k : Nat} (t : Int) (h : ¬ k < E.length) : at1 t (E.drop k) = false := by
  rw [List.drop_eq_nil_of_le (by omega)]; rfl
theorem egs_two {E : List Eg} {la lb : List Pd} (h : E.Perm (egs 0 la ++ egs 1 lb)) (k : Nat) (hk : k < E.length) : ∃ a li ch, E.getD k (0, 0, 0) = (a, li, ch) ∧ (li = 0 ∨ li = 1) ∧ -1 ≤ ch ∧ ch ≤ 1 := by
  have hm : E.getD k (0, 0, 0) ∈ E := by simp [List.getD, List.getElem?_eq_getElem hk]
  have := h.mem_iff.1 hm
  generalize E.getD k (0, 0, 0) = e at *
  obtain ⟨a, li, ch⟩ := e
  refine ⟨a, li, ch, rfl, ?_⟩
  rcases List.mem_append.1 this with h | h
  · have := egs_in h; simp at this; omega
  · have := egs_in h; simp at this; omega
theorem stp_next {f : Bool → Bool → Bool} {s : Sc} {a li ch oa ob : Int} (ha : (if li = 0 then s.oa + ch else s.oa) = oa) (hb : (if li = 1 then s.ob + ch else s.ob) = ob) : stp f s (a, li, ch) true = ⟨oa, ob, s.fr, s.ins, s.out⟩ := by
  unfold stp; rw [← ha, ← hb]; rfl
theorem stp_in {f : Bool → Bool → Bool} {s : Sc} {a li ch oa ob : Int} (ha : (if li = 0 then s.oa + ch else s.oa) = oa) (hb : (if li = 1 then s.ob + ch else s.ob) = ob) (hi : f (decide (0 < oa)) (decide (0 < ob)) = true) (hs : s.ins = false) : stp f s (a, li, ch) false = ⟨oa, ob, a, true, s.out⟩ := by
  unfold stp; simp only [ha, hb, hi, hs]; rfl
theorem stp_out {f : Bool → Bool → Bool} {s : Sc} {a li ch oa ob : Int} (ha : (if li = 0 then s.oa + ch else s.oa) = oa) (hb : (if li = 1 then s.ob + ch else s.ob) = ob) (hi : f (decide (0 < oa)) (decide (0 < ob)) = false) (hs : s.ins = true) : stp f s (a, li, ch) false = ⟨oa, ob, s.fr, false, s.out ++ [(s.fr, a)]⟩ := by
  unfold stp; simp only [ha, hb, hi, hs]; rfl
theorem stp_same {f : Bool → Bool → Bool} {s : Sc} {a li ch oa ob : Int} {i : Bool} (ha : (if li = 0 then s.oa + ch else s.oa) = oa) (hb : (if li = 1 then s.ob + ch else s.ob) = ob) (hi : f (decide (0 < oa)) (decide (0 < ob)) = i) (hs : s.ins = i) : stp f s (a, li, ch) false = ⟨oa, ob, s.fr, i, s.out⟩ := by
  unfold stp; simp only [ha, hb, hi, hs]; cases i <;> rfl
def fCover (x _y : Bool) : Bool := x
def fMinus (x y : Bool) : Bool := x && !y
def fCommon (x y : Bool) : Bool := x && y
theorem clo_Cover (x y : Bool) (w : World) : Calls Try.prog 34 #[.bool x, .bool y] w fun e w' => e = .returned (.bool (fCover x y)) ∧ w = w' := by
  cases x <;> cases y
  all_goals
    go_enter Try.func34, Try.ntmps34
    go_wp2
    go_ret
    exact ⟨rfl, rfl⟩
theorem clo_Minus (x y : Bool) (w : World) : Calls Try.prog 36 #[.bool x, .bool y] w fun e w' => e = .returned (.bool (fMinus x y)) ∧ w = w' := by
  cases x <;> cases y
  all_goals
    go_enter Try.func36, Try.ntmps36
    go_wp2
    go_ret
    exact ⟨rfl, rfl⟩
theorem clo_Common (x y : Bool) (w : World) : Calls Try.prog 37 #[.bool x, .bool y] w fun e w' => e = .returned (.bool (fCommon x y)) ∧ w = w' := by
  cases x <;> cases y
  all_goals
    go_enter Try.func37, Try.ntmps37
    go_wp2
    go_ret
    exact ⟨rfl, rfl⟩
theorem clo_is {g : FuncId} {f : Bool → Bool → Bool} (h : ∀ x y w, Calls Try.prog g #[.bool x, .bool y] w fun e w' => e = .returned (.bool (f x y)) ∧ w = w') (x y : Bool) (v : Bool) (hv : f x y = v) (w : World) : Calls Try.prog g #[.bool x, .bool y] w fun e w' => e = .returned (.bool v) ∧ w = w' := by
  subst hv; exact h x y w
/-- The canonical list of the instants for which f holds. -/
def CanOut (f : Bool → Bool → Bool) (la lb : List Pd) (w : World) (e : Ending) (w' : World) : Prop := ∃ E : List Eg, E.Perm (egs 0 la ++ egs 1 lb) ∧ srt E ∧ PdOut (scn f ⟨0, 0, 0, false, []⟩ E).out w e w'
end Go.Proofs.Ytigohhliblgdhaa
