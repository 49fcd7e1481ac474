/- Plain facts: numbers rounded down, and what is missing of their rounded sum. -/
import Derived.Test.YtopngdjhnljmfaaDoorRndV
import Derived.Deep.Cut
namespace Go.Proofs.YtopngdjhnljmfaaDoor
open Go.RowKit

theorem floor_sum {l : List Int} (h : l.all okA = true) : -112589990685 * (l.length : Int) ≤ (l.map (· / 10000)).sum ∧ (l.map (· / 10000)).sum ≤ 112589990685 * (l.length : Int) := by
  induction l with
  | nil => simp
  | cons z l ih =>
    rw [List.all_cons, Bool.and_eq_true] at h
    have h1 := okA_iff.1 h.1
    have h2 := ih h.2
    rw [List.map_cons, List.sum_cons, List.length_cons]
    omega
theorem rest_sum (l : List Int) : 10000 * (l.map (· / 10000)).sum ≤ l.sum ∧ l.sum ≤ 10000 * (l.map (· / 10000)).sum + 9999 * (l.length : Int) := by
  induction l with
  | nil => simp
  | cons z l ih =>
    rw [List.map_cons, List.sum_cons, List.sum_cons, List.length_cons]
    omega
theorem missing {l : List Int} {n : Nat} (h : l.length = n) : ∃ m : Nat, m ≤ n ∧ (m : Int) = rndV l.sum - (l.map (· / 10000)).sum := by
  have h1 := rest_sum l
  obtain ⟨q1, q2, q3⟩ := tq l.sum
  have hb : 0 ≤ rndV l.sum - (l.map (· / 10000)).sum ∧ rndV l.sum - (l.map (· / 10000)).sum ≤ n := by
    generalize l.sum = S at *
    unfold rndV
    split
    · omega
    · split <;> omega
  exact ⟨(rndV l.sum - (l.map (· / 10000)).sum).toNat, by omega, by omega⟩
/-- A row of n numbers of which the first k are laid. -/
def fillL (f : Int → Int) (zs : List Int) (n k : Nat) : List Int := (zs.take k).map f ++ List.replicate (n - k) 0
theorem fillL_zero (f : Int → Int) (zs : List Int) (n : Nat) : fillL f zs n 0 = List.replicate n 0 := by simp [fillL]
theorem fillL_length (f : Int → Int) {zs : List Int} {n k : Nat} (h : zs.length = n) (hk : k ≤ n) : (fillL f zs n k).length = n := by
  simp [fillL]; omega
theorem fillL_all (f : Int → Int) {zs : List Int} {n : Nat} (h : zs.length = n) : fillL f zs n n = zs.map f := by
  subst h; simp [fillL]
theorem fillL_set (f : Int → Int) {zs : List Int} {n k : Nat} (h : zs.length = n) (hk : k < n) : (fillL f zs n k).set k (f (zs[k]?.getD 0)) = fillL f zs n (k + 1) := by
  unfold fillL
  have hl : ((zs.take k).map f).length = k := by simp; omega
  have e : n - k = (n - (k + 1)) + 1 := by omega
  rw [List.set_append_right _ _ (by omega), hl, Nat.sub_self, e, List.replicate_succ, List.set_cons_zero, List.take_succ_eq_append_getElem (show k < zs.length by omega), List.map_append, List.append_assoc, List.getElem?_eq_getElem (show k < zs.length by omega)]
  rfl
theorem ownsRow_setOther {w : World} {base : Nat} {e : TypeId} {size g0 cp n : Nat} {xs : List Value} (h : w.ownsRow base e size (.slice (some ⟨g0, 0, none⟩) n cp) n xs) (g j : Nat) (hg : g ≠ g0) (u : Value) :
    (w.setCell ⟨g, j, none⟩ u).ownsRow base e size (.slice (some ⟨g0, 0, none⟩) n cp) n xs := by
  refine ⟨h.1, ?_⟩
  rcases h.2 with h | ⟨g1, cap, cur, e1, hg1, hh, r⟩
  · exact .inl h
  · cases e1
    exact .inr ⟨_, _, cur, rfl, hg1, (Below.heap_setCell w ⟨g, j, none⟩ u g0 (fun e => hg e.symm)).trans hh, r⟩
theorem hi_setOther {w : World} {g g2 j : Nat} {d : List Int} (h : St.HI w g d) (hg : g2 ≠ g) (u : Value) : St.HI (w.setCell ⟨g2, j, none⟩ u) g d := fun i hi =>
  ⟨by rw [World.cell?_setCell_other _ _ _ _ (by intro e'; simp only [Addr.mk.injEq] at e'; exact hg e'.1)]; exact (h i hi).1, by rw [World.frozen?_setCell]; exact (h i hi).2⟩
theorem hi_of_own {w : World} {base : Nat} {e : TypeId} {g cp n : Nat} {d : List Int} (h : w.ownsRow base e 1 (.slice (some ⟨g, 0, none⟩) n cp) n (d.map (Value.int .i64))) (hd : d.length = n) : St.HI w g d := fun i hi => by
  refine ⟨(World.ownsRow.cellAt h i (by omega)).trans ?_, World.ownsRow.frozenAt h i⟩
  simp [List.getD, List.getElem?_eq_getElem hi]
theorem own_lt {w : World} {base : Nat} {e : TypeId} {size g cp n : Nat} {xs : List Value} (h : w.ownsRow base e size (.slice (some ⟨g, 0, none⟩) n cp) n xs) : base ≤ g ∧ g < w.heap.size := by
  obtain ⟨_, h⟩ := h
  rcases h with ⟨h, _⟩ | ⟨g1, _, _, h, hg, hh, _⟩
  · cases h
  · cases h
    refine ⟨hg, ?_⟩
    rcases Nat.lt_or_ge g w.heap.size with h | h
    · exact h
    · rw [Array.getElem?_eq_none h] at hh; cases hh
end Go.Proofs.YtopngdjhnljmfaaDoor
