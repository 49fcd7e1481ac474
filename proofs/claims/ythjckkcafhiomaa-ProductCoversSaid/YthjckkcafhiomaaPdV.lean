/- Lists of texts, bundles and products in memory. -/
import Derived.Test.YthjckkcafhiomaaPdNr
import Derived.Test.YthjckkcafhiomaaLawKit
import Derived.Laws.StructEq
import Derived.Laws.OwnMore
import Derived.Deep.AppendLies
import Derived.Deep.Draws
import Derived.Deep.QuietTactic
import Derived.BigQuiet
import Derived.Lib.Hide
import Derived.Lib.QuietBelow
namespace Go.Proofs.Ythjckkcafhiomaa.Pd
open Go.RowKit

/-- Block g is the cells cs. -/
def Blk (w : World) (g : Nat) (t : TypeId) (cs : Array Value) : Prop := w.heap[g]? = some (.cells cs t (0, 0))
section
variable {w w' : World} {g : Nat} {t : TypeId} {cs : Array Value}
theorem Blk.lt (h : Blk w g t cs) : g < w.heap.size := by
  rcases Nat.lt_or_ge g w.heap.size with hlt | hge
  · exact hlt
  · unfold Blk at h; rw [Array.getElem?_eq_none hge] at h; cases h
theorem Blk.cell (h : Blk w g t cs) (i : Nat) : w.cell? ⟨g, i, none⟩ = cs[i]? := cell_of_row w g i cs t (0, 0) h
theorem Blk.frozen (h : Blk w g t cs) (i : Nat) : w.frozen? ⟨g, i, none⟩ = false := by
  unfold Blk at h
  simp [World.frozen?, h]
theorem Blk.new (w : World) (t : TypeId) (cs : Array Value) : Blk (w.alloc (.cells cs t)) w.heap.size t cs := heap_alloc_new w _
theorem Blk.drew (h : Blk w g t cs) : Blk w.drew g t cs := h
theorem Blk.drewN (h : Blk w g t cs) (n : Nat) : Blk (w.drewN n) g t cs := h
theorem Blk.alloc (h : Blk w g t cs) (o : Obj) : Blk (w.alloc o) g t cs := (Below.heap_alloc w o g h.lt).trans h
theorem Blk.set_ (h : Blk w g t cs) (i : Nat) (u : Value) : Blk (w.setCell ⟨g, i, none⟩ u) g t (cs.setIfInBounds i u) := by
  unfold Blk at h ⊢
  simp [World.setCell, Array.getElem?_modify, h]
theorem Blk.far (h : Blk w g t cs) {p : Addr} (hp : g ≠ p.block) (u : Value) : Blk (w.setCell p u) g t cs := (Below.heap_setCell w p u g hp).trans h
theorem Blk.below {B : Nat} (h : Blk w g t cs) (hb : Below B w w') (hg : g < B) : Blk w' g t cs := (hb.block g hg).trans h
theorem Blk.grown {row : Option Nat} (h : Blk w g t cs) (hb : w.grownBy w' row) (hg : some g ≠ row) : Blk w' g t cs := (hb.block g h.lt hg).trans h
theorem Blk.one {x : Value} (h : Blk w g t #[x]) : w.cell? ⟨g, 0, none⟩ = some x := h.cell 0
theorem Blk.two {x y : Value} (h : Blk w g t #[x, y]) : w.cell? ⟨g, 0, none⟩ = some x ∧ w.cell? ⟨g, 1, none⟩ = some y := ⟨h.cell 0, h.cell 1⟩
theorem Blk.six {a b c d e f : Value} (h : Blk w g t #[a, b, c, d, e, f]) : w.cell? ⟨g, 0, none⟩ = some a ∧ w.cell? ⟨g, 1, none⟩ = some b ∧ w.cell? ⟨g, 2, none⟩ = some c ∧ w.cell? ⟨g, 3, none⟩ = some d ∧ w.cell? ⟨g, 4, none⟩ = some e ∧ w.cell? ⟨g, 5, none⟩ = some f :=
  ⟨h.cell 0, h.cell 1, h.cell 2, h.cell 3, h.cell 4, h.cell 5⟩
end
theorem below_grown {B : Nat} {a w w' : World} {row : Option Nat} (h : Below B a w) (hg : w.grownBy w' row) (hr : ∀ k, row = some k → B ≤ k) (hs : B ≤ w.heap.size) : Below B a w' := by
  refine ⟨hg.os.trans h.os, hg.tape.trans h.tape, hg.output.trans h.output, Nat.le_trans h.size hg.size, fun k hk => ?_⟩
  rw [hg.block k (by omega) (fun e => by have := hr k e.symm; omega), h.block k hk]
theorem own_mono {w : World} {base base' e size n : Nat} {v : Value} {xs : List Value} (h : w.ownsRow base e size v n xs) (hb : base' ≤ base) : w.ownsRow base' e size v n xs :=
  ⟨h.1, h.2.imp id fun ⟨g, cap, cur, a, b, r⟩ => ⟨g, cap, cur, a, by omega, r⟩⟩
theorem own_keep {w w' : World} {base e size n : Nat} {v : Value} {xs : List Value} (h : w.ownsRow base e size v n xs) (hb : Below w.heap.size w w') : w'.ownsRow base e size v n xs :=
  h.kept (row := none) ⟨hb.os, hb.tape, hb.output, hb.size, fun k hk _ => hb.block k hk⟩ (by cases v.ownBlock <;> simp)

/-- A slice that reads as a list of texts. -/
def ZsR (w : World) (A : Option Addr) (l : List ByteArray) : Prop :=
  ∀ k, k < l.length → ∃ b off, A = some ⟨b, off, none⟩ ∧ b < w.heap.size ∧ w.cell? ⟨b, off + k, none⟩ = some (.string (l.getD k zs0)) ∧ (l.getD k zs0).size ≤ maxLen
theorem ZsR.below {w w' : World} {A : Option Addr} {l : List ByteArray} (h : ZsR w A l) (hb : Below w.heap.size w w') : ZsR w' A l := fun k hk => by
  obtain ⟨b, off, e, h1, h2, h3⟩ := h k hk
  exact ⟨b, off, e, Nat.lt_of_lt_of_le h1 hb.size, (hb.cell (p := ⟨b, off + k, none⟩) h1).trans h2, h3⟩
theorem ZsR.nil {w : World} {A : Option Addr} : ZsR w A [] := fun k hk => absurd hk (Nat.not_lt_zero k)
/-- A bundle whose zones read so. -/
structure BnOk (w : World) (b : Bn) : Prop where
  len : b.zs.length = b.n
  cap : b.n ≤ b.c
  max : b.c ≤ maxLen
  none : b.A = none → b.n = 0
  zs : ZsR w b.A b.zs
  few : b.n ≤ 8796093021952
theorem BnOk.below {w w' : World} {b : Bn} (h : BnOk w b) (hb : Below w.heap.size w w') : BnOk w' b := ⟨h.len, h.cap, h.max, h.none, h.zs.below hb, h.few⟩
def Six (w : World) (b o : Nat) (cs : Array Value) : Prop := ∀ i, i < 6 → w.cell? ⟨b, o + i, none⟩ = cs[i]?
def BnR (w : World) (A : Option Addr) (l : List Bn) : Prop :=
  ∀ k, k < l.length → ∃ b off, A = some ⟨b, off, none⟩ ∧ b < w.heap.size ∧ Six w b (off + k * 6) (l.getD k bn0).cells ∧ BnOk w (l.getD k bn0)
theorem Six.below {w w' : World} {b o : Nat} {cs : Array Value} (h : Six w b o cs) (hb : Below w.heap.size w w') (hl : b < w.heap.size) : Six w' b o cs := fun i hi => (hb.cell (p := ⟨b, o + i, none⟩) hl).trans (h i hi)
theorem Six.all {w : World} {b o : Nat} {c0 c1 c2 c3 c4 c5 : Value} (h : Six w b o #[c0, c1, c2, c3, c4, c5]) : w.cell? ⟨b, o, none⟩ = some c0 ∧ w.cell? ⟨b, o + 1, none⟩ = some c1 ∧ w.cell? ⟨b, o + 2, none⟩ = some c2 ∧ w.cell? ⟨b, o + 3, none⟩ = some c3 ∧ w.cell? ⟨b, o + 4, none⟩ = some c4 ∧ w.cell? ⟨b, o + 5, none⟩ = some c5 :=
  ⟨h 0 (by decide), h 1 (by decide), h 2 (by decide), h 3 (by decide), h 4 (by decide), h 5 (by decide)⟩
theorem BnR.below {w w' : World} {A : Option Addr} {l : List Bn} (h : BnR w A l) (hb : Below w.heap.size w w') : BnR w' A l := fun k hk => by
  obtain ⟨b, off, e, h1, h2, h3⟩ := h k hk
  exact ⟨b, off, e, Nat.lt_of_lt_of_le h1 hb.size, h2.below hb h1, h3.below hb⟩
theorem BnR.nil {w : World} {A : Option Addr} : BnR w A [] := fun k hk => absurd hk (Nat.not_lt_zero k)
/-- A product whose bundles read so. -/
structure PrOk (w : World) (p : Pr) : Prop where
  len : p.bs.length = p.n
  cap : p.n ≤ p.c
  max : p.c ≤ maxLen
  none : p.A = none → p.n = 0
  bs : BnR w p.A p.bs
  nm : p.nm.size ≤ maxLen
  ca : p.ca.size ≤ maxLen
theorem PrOk.below {w w' : World} {p : Pr} (h : PrOk w p) (hb : Below w.heap.size w w') : PrOk w' p := ⟨h.len, h.cap, h.max, h.none, h.bs.below hb, h.nm, h.ca⟩
theorem PrOk.zero (w : World) : PrOk w pr0 := ⟨rfl, Nat.le_refl _, by decide, fun _ => rfl, BnR.nil, by decide, by decide⟩
def PrR (w : World) (A : Option Addr) (l : List Pr) : Prop :=
  ∀ k, k < l.length → ∃ b off, A = some ⟨b, off, none⟩ ∧ b < w.heap.size ∧ Six w b (off + k * 6) (l.getD k pr0).cells ∧ PrOk w (l.getD k pr0)
theorem PrR.below {w w' : World} {A : Option Addr} {l : List Pr} (h : PrR w A l) (hb : Below w.heap.size w w') : PrR w' A l := fun k hk => by
  obtain ⟨b, off, e, h1, h2, h3⟩ := h k hk
  exact ⟨b, off, e, Nat.lt_of_lt_of_le h1 hb.size, h2.below hb h1, h3.below hb⟩
theorem PrR.nil {w : World} {A : Option Addr} : PrR w A [] := fun k hk => absurd hk (Nat.not_lt_zero k)
theorem PrR.ok {w : World} {A : Option Addr} {l : List Pr} (h : PrR w A l) : ∀ p ∈ l, PrOk w p := fun p hp => by
  obtain ⟨k, hk, rfl⟩ := List.mem_iff_getElem.1 hp
  obtain ⟨_, _, _, _, _, h3⟩ := h k hk
  simpa [List.getD, List.getElem?_eq_getElem hk] using h3
/-- The cells of a list of products. -/
def psl (l : List Pr) : List Value := l.flatMap fun p => p.cells.toList
theorem psl_len (l : List Pr) : (psl l).length = l.length * 6 := by
  induction l with
  | nil => rfl
  | cons r l ih => rw [psl, List.flatMap_cons, List.length_append]; rw [psl] at ih; rw [ih]; simp [Pr.cells]; omega
theorem psl_app (l m : List Pr) : psl (l ++ m) = psl l ++ psl m := List.flatMap_append
theorem psl_one (l : List Pr) : ∀ v ∈ psl l, v.oneCell' = true := by
  intro v hv
  obtain ⟨r, _, h⟩ := List.mem_flatMap.1 hv
  simp [Pr.cells] at h
  rcases h with rfl | rfl | rfl | rfl | rfl | rfl <;> rfl
theorem psl_at : ∀ {l : List Pr} {k : Nat}, k < l.length → ∀ i, i < 6 → (psl l)[k * 6 + i]? = (l.getD k pr0).cells[i]?
  | [], k, h, _, _ => absurd h (Nat.not_lt_zero k)
  | r :: l, 0, _, i, hi => by
    rw [psl, List.flatMap_cons, Nat.zero_mul, Nat.zero_add, List.getElem?_append_left (by simp [Pr.cells]; omega)]; simp
  | r :: l, k + 1, h, i, hi => by
    have := psl_at (l := l) (k := k) (by simpa using h) i hi
    rw [psl, List.flatMap_cons, List.getElem?_append_right (by simp [Pr.cells]; omega), show (k + 1) * 6 + i - r.cells.toList.length = k * 6 + i by simp [Pr.cells]; omega]
    rw [psl] at this
    rw [this]; simp
theorem pr_own {w : World} {base n : Nat} {v : Value} {l : List Pr} (h : w.ownsRow base 29 6 v n (psl l)) (hn : l.length = n) (hl : ∀ p ∈ l, PrOk w p) : ∃ A c, v = .slice A n c ∧ n ≤ c ∧ c ≤ maxLen ∧ PrR w A l ∧ (A = none → n = 0) := by
  rcases h.2 with ⟨rfl, rfl⟩ | ⟨g, cap, cur, rfl, hb, hg, hnc, hcm, hcs, htake⟩
  · obtain rfl : l = [] := by simpa using hn
    exact ⟨none, 0, rfl, Nat.le_refl _, Nat.zero_le _, PrR.nil, fun _ => rfl⟩
  · refine ⟨_, cap, rfl, hnc, hcm, fun k hk => ?_, (by simp)⟩
    have hlt : g < w.heap.size := (Array.getElem?_eq_some_iff.1 hg).1
    refine ⟨g, 0, rfl, hlt, fun i hi => ?_, ?_⟩
    · have ha := psl_at hk i hi
      rw [← htake, List.getElem?_take] at ha
      rw [if_pos (by omega)] at ha
      rw [Nat.zero_add, cell_of_row w g _ cur _ (0, 0) hg, ← ha]
      simp
    · have : l.getD k pr0 = l[k] := by simp [List.getD, List.getElem?_eq_getElem hk]
      rw [this]
      exact hl _ (List.getElem_mem _)
theorem prInfo : (Try.prog.info? 29).map (fun i => (i.zero, i.size, i.bytes)) = some (some (.agg pr0.cells), 6, 80) := by kernel_rfl
theorem bnInfo : (Try.prog.info? 48).map (fun i => (i.zero, i.size, i.bytes)) = some (some (.agg bn0.cells), 6, 64) := by kernel_rfl
theorem pdInfo : (Try.prog.info? 44).map (fun i => (i.zero, i.size, i.bytes)) = some (some (.agg #[.int .i64 0, .int .i64 0, .int .i64 0]), 3, 24) := by kernel_rfl
theorem strInfo : (Try.prog.info? 9).map (fun i => (i.zero, i.size, i.bytes)) = some (some (.string ByteArray.empty), 1, 16) := by kernel_rfl
end Go.Proofs.Ythjckkcafhiomaa.Pd
