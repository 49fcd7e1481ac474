/- Elements that are found in bytes. -/
import Derived.Test.YtinnmnhaeejfdaaTgV
import Derived.Deep.AppendLies
namespace Go.Proofs.Ytinnmnhaeejfdaa
open Go.RowKit

theorem elInfo : (Try.prog.info? 47).map (fun i => (i.zero, i.size, i.bytes)) = some (some (.agg #[.int .i64 0, .slice none 0 0]), 2, 32) := by kernel_rfl
/-- The elements of bytes up to the first error, and that error. -/
def elmF : Nat → List Int → Int → List El × Int
  | 0, _, _ => ([], 0)
  | _ + 1, [], _ => ([], 0)
  | k + 1, t :: r, p =>
    if t = 0 then ([], 6) else if t ≤ p then ([], 9) else
      match r with
      | [] => ([], 2)
      | z :: s => if (s.length : Int) < z then ([], 2) else ((t, s.take z.toNat) :: (elmF k (s.drop z.toNat) t).1, (elmF k (s.drop z.toNat) t).2)
def elmR (b : List Int) : List El × Int := elmF (b.length + 1) b 0
/-- The found elements in memory: the list is the call's own, and no value lies in the list's row. -/
def FoundE (w : World) (base : Nat) (v : Value) (es : List El) : Prop :=
  ∃ vs : List Value, w.ownsRow base 47 2 v es.length vs ∧ (∀ u ∈ vs, u.oneCell' = true) ∧ ∀ (i : Nat) (e : El), es[i]? = some e → ∃ A m d, vs[i * 2]? = some (.int .i64 e.1) ∧ vs[i * 2 + 1]? = some (Value.slice A m d) ∧ Byt w A m d e.2 ∧ ∀ x, A = some x → e.2 ≠ [] → v.ownBlock ≠ some x.block
theorem row_keep2 {w w' : World} {base e n s : Nat} {v : Value} {xs : List Value} (h : w.ownsRow base e s v n xs) (hb : Below w.heap.size w w') : w'.ownsRow base e s v n xs :=
  h.kept (row := none) ⟨hb.os, hb.tape, hb.output, hb.size, fun k hk _ => hb.block k hk⟩ (by cases hv : v.ownBlock with
    | none => exact .inl rfl
    | some x => exact .inr (by simp))
theorem FoundE.below {w w' : World} {base : Nat} {v : Value} {es : List El} (h : FoundE w base v es) (hb : Below w.heap.size w w') : FoundE w' base v es := by
  obtain ⟨vs, h1, h2, h3⟩ := h
  refine ⟨vs, row_keep2 h1 hb, h2, fun i e hi => ?_⟩
  obtain ⟨A, m, d, g1, g2, g3, g4⟩ := h3 i e hi
  exact ⟨A, m, d, g1, g2, g3.below hb, g4⟩
/-- One element more. -/
theorem FoundE.more {wr w2 w3 : World} {base : Nat} {v : Value} {es : List El} {t : Int} {l : List Int} {A : Option Addr} {m d g c : Nat} {vs : List Value}
    (hvs : wr.ownsRow base 47 2 v es.length vs) (h1 : ∀ u ∈ vs, u.oneCell' = true) (hpay : ∀ (i : Nat) (e : El), es[i]? = some e → ∃ A m d, vs[i * 2]? = some (.int .i64 e.1) ∧ vs[i * 2 + 1]? = some (Value.slice A m d) ∧ Byt wr A m d e.2 ∧ ∀ x, A = some x → e.2 ≠ [] → v.ownBlock ≠ some x.block)
    (hb : Below wr.heap.size wr w2) (hy : Byt w2 A m d l) (hfar : ∀ x, A = some x → l ≠ [] → wr.heap.size ≤ x.block ∧ x.block < w2.heap.size)
    (o : Obj) (hown : w3.ownsRow base 47 2 (.slice (some ⟨g, 0, none⟩) (es.length + 1) c) (es.length + 1) (vs ++ [.int .i64 t, .slice A m d])) (hg : (w2.alloc o).grownBy w3 v.ownBlock) (hlie : v.ownBlock = some g ∨ g = w2.heap.size + 1) :
    FoundE w3 base (.slice (some ⟨g, 0, none⟩) (es.length + 1) c) (es ++ [(t, l)]) := by
  have hvl : vs.length = es.length * 2 := hvs.1
  refine ⟨vs ++ [.int .i64 t, .slice A m d], by rw [List.length_append]; exact hown, ?_, ?_⟩
  · intro u hu
    rcases List.mem_append.1 hu with h | h
    · exact h1 u h
    · simp at h; rcases h with rfl | rfl <;> rfl
  · intro i q hq
    rcases Nat.lt_or_ge i es.length with hi | hi
    · rw [List.getElem?_append_left hi] at hq
      obtain ⟨B, k, e, g0, g1, g2, g3⟩ := hpay i q hq
      refine ⟨B, k, e, by rw [List.getElem?_append_left (by omega)]; exact g0, by rw [List.getElem?_append_left (by omega)]; exact g1, ?_, ?_⟩
      · exact ((g2.below hb).below ((Below.refl _ _).alloc (Nat.le_refl _) o)).grown hg g3
      · intro x hx hne h
        have h5 := g2.in x hx hne
        have h6 := hb.size
        have h7 : g = x.block := Option.some.inj h
        rcases hlie with h8 | h8
        · exact g3 x hx hne (by rw [h8, h7])
        · omega
    · obtain rfl : i = es.length := by
        have := (List.getElem?_eq_some_iff.1 hq).1
        rw [List.length_append] at this; simp at this; omega
      rw [List.getElem?_append_right (Nat.le_refl _), Nat.sub_self] at hq
      simp at hq
      subst hq
      refine ⟨A, m, d, by rw [List.getElem?_append_right (by omega), hvl]; simp, by rw [List.getElem?_append_right (by omega), hvl, show es.length * 2 + 1 - es.length * 2 = 1 by omega]; rfl, ?_, ?_⟩
      · exact (hy.below ((Below.refl _ _).alloc (Nat.le_refl _) o)).grown hg (fun x hx hne h => by
          have h5 := (hfar x hx hne).1
          have h6 := (hvs.lt _ h).2; omega)
      · intro x hx hne h
        have h5 := hfar x hx hne
        have h7 : g = x.block := Option.some.inj h
        rcases hlie with h8 | h8
        · have h6 := (hvs.lt _ h8).2; omega
        · omega
/-- Found elements can be read. -/
theorem FoundE.els {w : World} {base : Nat} {v : Value} {es : List El} (h : FoundE w base v es) : ∃ A c, v = .slice A es.length c ∧ Els w A es.length es none := by
  obtain ⟨vs, h1, h2, h3⟩ := h
  have hvl : vs.length = es.length * 2 := h1.1
  rcases h1.2 with ⟨rfl, h0⟩ | ⟨g, cap, cur, rfl, hb, hg, hnc, hcm, hcs, htake⟩
  · have he : es = [] := List.length_eq_zero_iff.1 h0
    subst he
    exact ⟨none, 0, rfl, rfl, fun k e hk => by simp at hk⟩
  · refine ⟨some ⟨g, 0, none⟩, cap, rfl, rfl, fun k e hk => ?_⟩
    obtain ⟨A, m, d, g0, g1, g2, g3⟩ := h3 k e hk
    have hcells := h1.cells (g := g) rfl
    have c0 := hcells _ _ g0
    have c1 := hcells _ _ g1
    rw [add_none, Nat.zero_add] at c0 c1
    rw [← Nat.zero_add (k * 2)] at c0 c1
    exact ⟨g, 0, A, m, d, rfl, (h1.lt g rfl).2, by simp, c0, by rw [Nat.add_assoc] at c1 ⊢; exact c1, g2, fun x _ _ => by simp⟩
/-- What Elements gives. -/
def ElmP (l : List Int) (w : World) (e : Ending) (w' : World) : Prop :=
  (if (elmR l).2 = 0 then ∃ v, e = .returned (.tuple #[v, .int .i64 0]) ∧ FoundE w' w.heap.size v (elmR l).1 else e = .returned (.tuple #[.slice none 0 0, .int .i64 (elmR l).2])) ∧ Below w.heap.size w w'
theorem ElmP.no {l : List Int} {w : World} {e : Ending} {w' : World} {x : Int} (h : (elmR l).2 = x) (hx : x ≠ 0) (he : e = .returned (.tuple #[.slice none 0 0, .int .i64 x])) (hb : Below w.heap.size w w') : ElmP l w e w' := by
  subst h
  exact ⟨by rw [if_neg hx]; exact he, hb⟩
theorem ElmP.yes {l : List Int} {w : World} {e : Ending} {w' : World} {v : Value} {es : List El} (h : (elmR l).2 = 0) (h1 : (elmR l).1 = es) (he : e = .returned (.tuple #[v, .int .i64 0])) (ho : FoundE w' w.heap.size v es) (hb : Below w.heap.size w w') : ElmP l w e w' := by
  subst h1
  exact ⟨by rw [if_pos h]; exact ⟨v, he, ho⟩, hb⟩
theorem elmF_cons (k : Nat) (t z : Int) (s : List Int) (p : Int) : elmF (k + 1) (t :: z :: s) p = if t = 0 then ([], 6) else if t ≤ p then ([], 9) else if (s.length : Int) < z then ([], 2) else ((t, s.take z.toNat) :: (elmF k (s.drop z.toNat) t).1, (elmF k (s.drop z.toNat) t).2) := rfl
theorem elmF_one (k : Nat) (t : Int) (p : Int) : elmF (k + 1) [t] p = if t = 0 then ([], 6) else if t ≤ p then ([], 9) else ([], 2) := rfl
theorem elmF_nil (k : Nat) (p : Int) : elmF k [] p = ([], 0) := by cases k <;> rfl
end Go.Proofs.Ytinnmnhaeejfdaa
