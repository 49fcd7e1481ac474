/- Lists of records and of rejects in memory. -/
import Derived.Test.YtokdfdinnaghmaaDoorRcS
import Derived.Laws.StructEq
import Derived.Laws.OwnMore
import Derived.Deep.AppendLies
import Derived.Deep.Draws
import Derived.Deep.QuietTactic
import Derived.BigQuiet
import Derived.Lib.Hide
import Derived.Lib.QuietBelow
namespace Go.Proofs.YtokdfdinnaghmaaDoor.Va
open Go.RowKit

/-- Block g is the cells cs. -/
def Blk (w : World) (g : Nat) (t : TypeId) (cs : Array Value) : Prop := w.heap[g]? = some (.cells cs t (0, 0))
section
variable {w w' : World} {g : Nat} {t : TypeId} {cs : Array Value}
theorem Blk.lt (h : Blk w g t cs) : g < w.heap.size := by
  rcases Nat.lt_or_ge g w.heap.size with hlt | hge
  · exact hlt
  · unfold Blk at h; rw [Array.getElem?_eq_none hge] at h; cases h
theorem Blk.cell (h : Blk w g t cs) (i : Nat) : w.cell? ⟨g, i, none⟩ = cs[i]? := cell_of_row w g i cs t (0, 0) h
theorem Blk.frozen (h : Blk w g t cs) (i : Nat) : w.frozen? ⟨g, i, none⟩ = false := by
  unfold Blk at h
  simp [World.frozen?, h]
theorem Blk.new (w : World) (t : TypeId) (cs : Array Value) : Blk (w.alloc (.cells cs t)) w.heap.size t cs := heap_alloc_new w _
theorem Blk.drew (h : Blk w g t cs) : Blk w.drew g t cs := h
theorem Blk.drewN (h : Blk w g t cs) (n : Nat) : Blk (w.drewN n) g t cs := h
theorem Blk.alloc (h : Blk w g t cs) (o : Obj) : Blk (w.alloc o) g t cs := (Below.heap_alloc w o g h.lt).trans h
theorem Blk.set_ (h : Blk w g t cs) (i : Nat) (u : Value) : Blk (w.setCell ⟨g, i, none⟩ u) g t (cs.setIfInBounds i u) := by
  unfold Blk at h ⊢
  simp [World.setCell, Array.getElem?_modify, h]
theorem Blk.far (h : Blk w g t cs) {p : Addr} (hp : g ≠ p.block) (u : Value) : Blk (w.setCell p u) g t cs := (Below.heap_setCell w p u g hp).trans h
theorem Blk.below {B : Nat} (h : Blk w g t cs) (hb : Below B w w') (hg : g < B) : Blk w' g t cs := (hb.block g hg).trans h
theorem Blk.grown {row : Option Nat} (h : Blk w g t cs) (hb : w.grownBy w' row) (hg : some g ≠ row) : Blk w' g t cs := (hb.block g h.lt hg).trans h
theorem Blk.one {x : Value} (h : Blk w g t #[x]) : w.cell? ⟨g, 0, none⟩ = some x := h.cell 0
theorem Blk.two {x y : Value} (h : Blk w g t #[x, y]) : w.cell? ⟨g, 0, none⟩ = some x ∧ w.cell? ⟨g, 1, none⟩ = some y := ⟨h.cell 0, h.cell 1⟩
end
theorem ret_int {k : IntKind} {a b : Int} (h : a = b) : Ending.returned (.int k a) = .returned (.int k b) := by rw [h]
theorem ret_bool {a b : Bool} (h : a = b) : Ending.returned (.bool a) = .returned (.bool b) := by rw [h]
theorem below_drewN {B : Nat} {a w : World} (h : Below B a w) (n : Nat) : Below B a (w.drewN n) := ⟨h.os, h.tape, h.output, h.size, h.block⟩
theorem own_mono {w : World} {base base' e size n : Nat} {v : Value} {xs : List Value} (h : w.ownsRow base e size v n xs) (hb : base' ≤ base) : w.ownsRow base' e size v n xs :=
  ⟨h.1, h.2.imp id fun ⟨g, cap, cur, a, b, r⟩ => ⟨g, cap, cur, a, by omega, r⟩⟩
theorem own_keep {w w' : World} {base e size n : Nat} {v : Value} {xs : List Value} (h : w.ownsRow base e size v n xs) (hb : Below w.heap.size w w') : w'.ownsRow base e size v n xs :=
  h.kept (row := none) ⟨hb.os, hb.tape, hb.output, hb.size, fun k hk _ => hb.block k hk⟩ (by cases v.ownBlock <;> simp)

def rc0 : Rc := ⟨0, 0, 0, ByteArray.empty, ByteArray.empty, 0, 0, 0, 0, false, 0, false⟩
/-- The cells of a list of records. -/
def recl (l : List Rc) : List Value := l.flatMap fun r => r.cells.toList
theorem recl_len (l : List Rc) : (recl l).length = l.length * 12 := by
  induction l with
  | nil => rfl
  | cons r l ih => rw [recl, List.flatMap_cons, List.length_append]; rw [recl] at ih; rw [ih]; simp [Rc.cells]; omega
theorem recl_app (l m : List Rc) : recl (l ++ m) = recl l ++ recl m := List.flatMap_append
theorem recl_one (l : List Rc) : ∀ v ∈ recl l, v.oneCell' = true := by
  intro v hv
  obtain ⟨r, _, h⟩ := List.mem_flatMap.1 hv
  simp [Rc.cells] at h
  rcases h with rfl | rfl | rfl | rfl | rfl | rfl | rfl | rfl | rfl | rfl | rfl | rfl <;> rfl
theorem recl_at : ∀ {l : List Rc} {k : Nat}, k < l.length → ∀ i, i < 12 → (recl l)[k * 12 + i]? = (l.getD k rc0).cells[i]?
  | [], k, h, _, _ => absurd h (Nat.not_lt_zero k)
  | r :: l, 0, _, i, hi => by
    rw [recl, List.flatMap_cons, Nat.zero_mul, Nat.zero_add, List.getElem?_append_left (by simp [Rc.cells]; omega)]; simp
  | r :: l, k + 1, h, i, hi => by
    have := recl_at (l := l) (k := k) (by simpa using h) i hi
    rw [recl, List.flatMap_cons, List.getElem?_append_right (by simp [Rc.cells]; omega), show (k + 1) * 12 + i - r.cells.toList.length = k * 12 + i by simp [Rc.cells]; omega]
    rw [recl] at this
    rw [this]; simp
/-- Twelve cells are a record. -/
def RcC (w : World) (b o : Nat) (r : Rc) : Prop := ∀ i, i < 12 → w.cell? ⟨b, o + i, none⟩ = r.cells[i]?
theorem RcC.all {w : World} {b o : Nat} {r : Rc} (h : RcC w b o r) : w.cell? ⟨b, o, none⟩ = some (.int .i64 r.s0) ∧ w.cell? ⟨b, o + 1, none⟩ = some (.int .i64 r.s1) ∧ w.cell? ⟨b, o + 2, none⟩ = some (.int .i64 r.s2) ∧ w.cell? ⟨b, o + 3, none⟩ = some (.string r.sa) ∧ w.cell? ⟨b, o + 4, none⟩ = some (.string r.sb) ∧ w.cell? ⟨b, o + 5, none⟩ = some (.int .i64 r.s5) ∧ w.cell? ⟨b, o + 6, none⟩ = some (.int .i64 r.s6) ∧ w.cell? ⟨b, o + 7, none⟩ = some (.int .i64 r.s7) ∧ w.cell? ⟨b, o + 8, none⟩ = some (.int .i64 r.s8) ∧ w.cell? ⟨b, o + 9, none⟩ = some (.bool r.b9) ∧ w.cell? ⟨b, o + 10, none⟩ = some (.int .i64 r.s10) ∧ w.cell? ⟨b, o + 11, none⟩ = some (.bool r.b11) :=
  ⟨h 0 (by decide), h 1 (by decide), h 2 (by decide), h 3 (by decide), h 4 (by decide), h 5 (by decide), h 6 (by decide), h 7 (by decide), h 8 (by decide), h 9 (by decide), h 10 (by decide), h 11 (by decide)⟩
/-- A slice that reads as a list of records, in block order. -/
def RecR (w : World) (A : Option Addr) (l : List Rc) : Prop :=
  ∀ k, k < l.length → ∃ b off, A = some ⟨b, off, none⟩ ∧ b < w.heap.size ∧ RcC w b (off + k * 12) (l.getD k rc0)
theorem RecR.nil {w : World} {A : Option Addr} : RecR w A [] := fun k hk => absurd hk (Nat.not_lt_zero k)
/-- The block that a slice lies in is kept. -/
theorem RecR.keep {w w' : World} {A : Option Addr} {l : List Rc} (h : RecR w A l) (hs : w.heap.size ≤ w'.heap.size) (hb : ∀ a, A = some a → a.block < w.heap.size → w'.heap[a.block]? = w.heap[a.block]?) : RecR w' A l := fun k hk => by
  obtain ⟨b, off, e, h1, h2⟩ := h k hk
  have hk' := hb ⟨b, off, none⟩ e h1
  exact ⟨b, off, e, Nat.lt_of_lt_of_le h1 hs, fun i hi => (World.cell?_of_block (w := w) (a := ⟨b, off + k * 12 + i, none⟩) hk').trans (h2 i hi)⟩
theorem RecR.below {w w' : World} {A : Option Addr} {l : List Rc} (h : RecR w A l) (hb : Below w.heap.size w w') : RecR w' A l := h.keep hb.size (fun a _ ha => hb.block _ ha)
theorem rec_own {w : World} {base n : Nat} {v : Value} {l : List Rc} (h : w.ownsRow base 23 12 v n (recl l)) (hn : l.length = n) : ∃ A c, v = .slice A n c ∧ n ≤ c ∧ c ≤ maxLen ∧ RecR w A l ∧ (A = none → n = 0) := by
  rcases h.2 with ⟨rfl, rfl⟩ | ⟨g, cap, cur, rfl, hb, hg, hnc, hcm, hcs, htake⟩
  · obtain rfl : l = [] := by simpa using hn
    exact ⟨none, 0, rfl, Nat.le_refl _, Nat.zero_le _, RecR.nil, fun _ => rfl⟩
  · refine ⟨_, cap, rfl, hnc, hcm, fun k hk => ?_, (by simp)⟩
    have hlt : g < w.heap.size := (Array.getElem?_eq_some_iff.1 hg).1
    refine ⟨g, 0, rfl, hlt, fun i hi => ?_⟩
    have ha := recl_at hk i hi
    rw [← htake, List.getElem?_take] at ha
    rw [if_pos (by omega)] at ha
    rw [Nat.zero_add, cell_of_row w g _ cur _ (0, 0) hg, ← ha]
    simp
/-- A reject: source, serial number, position, error. -/
abbrev Rj := Int × Int × Int × Int
def rj0 : Rj := (0, 0, 0, 0)
def jcl (l : List Rj) : List Value := l.flatMap fun r => [.int .i64 r.1, .int .i64 r.2.1, .int .i64 r.2.2.1, .int .i64 r.2.2.2]
theorem jcl_len (l : List Rj) : (jcl l).length = l.length * 4 := by
  induction l with
  | nil => rfl
  | cons r l ih => rw [jcl, List.flatMap_cons, List.length_append]; rw [jcl] at ih; rw [ih]; simp; omega
theorem jcl_app (l m : List Rj) : jcl (l ++ m) = jcl l ++ jcl m := List.flatMap_append
theorem jcl_cons (r : Rj) (l : List Rj) : jcl (r :: l) = .int .i64 r.1 :: .int .i64 r.2.1 :: .int .i64 r.2.2.1 :: .int .i64 r.2.2.2 :: jcl l := rfl
theorem jcl_at : ∀ {l : List Rj} {k : Nat}, k < l.length → (jcl l)[k * 4]? = some (.int .i64 (l.getD k rj0).1) ∧ (jcl l)[k * 4 + 1]? = some (.int .i64 (l.getD k rj0).2.1) ∧ (jcl l)[k * 4 + 2]? = some (.int .i64 (l.getD k rj0).2.2.1) ∧ (jcl l)[k * 4 + 3]? = some (.int .i64 (l.getD k rj0).2.2.2)
  | [], k, h => absurd h (Nat.not_lt_zero k)
  | r :: l, 0, _ => ⟨rfl, rfl, rfl, rfl⟩
  | r :: l, k + 1, h => by
    have := jcl_at (l := l) (k := k) (by simpa using h)
    rw [jcl_cons, show (k + 1) * 4 = k * 4 + 1 + 1 + 1 + 1 by omega]
    simpa using this
theorem jcl_one (l : List Rj) : ∀ v ∈ jcl l, v.oneCell' = true := by
  intro v hv
  obtain ⟨r, _, h⟩ := List.mem_flatMap.1 hv
  simp at h
  rcases h with rfl | rfl | rfl | rfl <;> rfl
def RjR (w : World) (A : Option Addr) (l : List Rj) : Prop :=
  ∀ k, k < l.length → ∃ b off, A = some ⟨b, off, none⟩ ∧ b < w.heap.size ∧ w.cell? ⟨b, off + k * 4, none⟩ = some (.int .i64 (l.getD k rj0).1) ∧ w.cell? ⟨b, off + k * 4 + 1, none⟩ = some (.int .i64 (l.getD k rj0).2.1) ∧ w.cell? ⟨b, off + k * 4 + 2, none⟩ = some (.int .i64 (l.getD k rj0).2.2.1) ∧ w.cell? ⟨b, off + k * 4 + 3, none⟩ = some (.int .i64 (l.getD k rj0).2.2.2)
theorem RjR.below {w w' : World} {A : Option Addr} {l : List Rj} (h : RjR w A l) (hb : Below w.heap.size w w') : RjR w' A l := fun k hk => by
  obtain ⟨b, off, e, h1, h2, h3, h4, h5⟩ := h k hk
  exact ⟨b, off, e, Nat.lt_of_lt_of_le h1 hb.size, (hb.cell (p := ⟨b, off + k * 4, none⟩) h1).trans h2, (hb.cell (p := ⟨b, off + k * 4 + 1, none⟩) h1).trans h3, (hb.cell (p := ⟨b, off + k * 4 + 2, none⟩) h1).trans h4, (hb.cell (p := ⟨b, off + k * 4 + 3, none⟩) h1).trans h5⟩
theorem RjR.nil {w : World} {A : Option Addr} : RjR w A [] := fun k hk => absurd hk (Nat.not_lt_zero k)
theorem rj_own {w : World} {base n : Nat} {v : Value} {l : List Rj} (h : w.ownsRow base 43 4 v n (jcl l)) (hn : l.length = n) : ∃ A c, v = .slice A n c ∧ n ≤ c ∧ c ≤ maxLen ∧ RjR w A l ∧ (A = none → n = 0) := by
  rcases h.2 with ⟨rfl, rfl⟩ | ⟨g, cap, cur, rfl, hb, hg, hnc, hcm, hcs, htake⟩
  · obtain rfl : l = [] := by simpa using hn
    exact ⟨none, 0, rfl, Nat.le_refl _, Nat.zero_le _, RjR.nil, fun _ => rfl⟩
  · refine ⟨_, cap, rfl, hnc, hcm, fun k hk => ?_, (by simp)⟩
    have hlt : g < w.heap.size := (Array.getElem?_eq_some_iff.1 hg).1
    obtain ⟨a1, a2, a3, a4⟩ := jcl_at hk
    rw [← htake] at a1 a2 a3 a4
    have hat : ∀ j v, (cur.toList.take (n * 4))[j]? = some v → w.cell? ⟨g, j, none⟩ = some v := fun j v hj => by
      rw [cell_of_row w g j cur _ (0, 0) hg]
      rw [List.getElem?_take] at hj
      split at hj
      · simpa using hj
      · cases hj
    refine ⟨g, 0, rfl, hlt, ?_, ?_, ?_, ?_⟩
    · rw [Nat.zero_add]; exact hat _ _ a1
    · rw [Nat.zero_add]; exact hat _ _ a2
    · rw [Nat.zero_add]; exact hat _ _ a3
    · rw [Nat.zero_add]; exact hat _ _ a4
theorem recInfo : (Tryd.prog.info? 23).map (fun i => (i.zero, i.size, i.bytes)) = some (some (.agg rc0.cells), 12, 112) := by kernel_rfl
theorem rejInfo : (Tryd.prog.info? 43).map (fun i => (i.zero, i.size, i.bytes)) = some (some (.agg #[.int .i64 0, .int .i64 0, .int .i64 0, .int .i64 0]), 4, 32) := by kernel_rfl
/-- What a call may have changed: the blocks of F among those that were there. -/
structure Chg (F : Nat → Prop) (w w' : World) : Prop where
  os : w'.os = w.os
  tape : w'.tape = w.tape
  output : w'.output = w.output
  size : w.heap.size ≤ w'.heap.size
  block : ∀ k, k < w.heap.size → ¬ F k → w'.heap[k]? = w.heap[k]?
theorem Chg.refl (F : Nat → Prop) (w : World) : Chg F w w := ⟨rfl, rfl, rfl, Nat.le_refl _, fun _ _ _ => rfl⟩
theorem Chg.trans {F G : Nat → Prop} {a b c : World} (h : Chg F a b) (k : Chg G b c) (hG : ∀ q, q < a.heap.size → G q → F q) : Chg F a c :=
  ⟨k.os.trans h.os, k.tape.trans h.tape, k.output.trans h.output, Nat.le_trans h.size k.size, fun i hi hF => (k.block i (Nat.lt_of_lt_of_le hi h.size) (fun g => hF (hG i hi g))).trans (h.block i hi hF)⟩
theorem Chg.below {w w' : World} (h : Chg (fun _ => False) w w') : Below w.heap.size w w' := ⟨h.os, h.tape, h.output, h.size, fun k hk => h.block k hk id⟩
theorem chg_below {F : Nat → Prop} {w w' : World} (h : Below w.heap.size w w') : Chg F w w' := ⟨h.os, h.tape, h.output, h.size, fun k hk _ => h.block k hk⟩
theorem Chg.drew {F : Nat → Prop} {w w' : World} (h : Chg F w w') : Chg F w w'.drew := ⟨h.os, h.tape, h.output, h.size, h.block⟩
theorem Chg.grown {F : Nat → Prop} {a w w' : World} {row : Option Nat} (h : Chg F a w) (hg : w.grownBy w' row) (hr : ∀ k, row = some k → a.heap.size ≤ k) : Chg F a w' :=
  ⟨hg.os.trans h.os, hg.tape.trans h.tape, hg.output.trans h.output, Nat.le_trans h.size hg.size, fun k hk hF => (hg.block k (Nat.lt_of_lt_of_le hk h.size) (fun e => by have := hr k e.symm; omega)).trans (h.block k hk hF)⟩
theorem Chg.alloc {F : Nat → Prop} {a w : World} (h : Chg F a w) (o : Obj) : Chg F a (w.alloc o) := h.grown (World.grownBy_alloc w o none) (by simp)
theorem Chg.keep {F : Nat → Prop} {w w' : World} {b : Nat} (h : Chg F w w') (hb : b < w.heap.size) (hF : ¬ F b) : w'.heap[b]? = w.heap[b]? := h.block b hb hF
theorem own_chg {F : Nat → Prop} {w w' : World} {base e size n : Nat} {v : Value} {xs : List Value} (h : w.ownsRow base e size v n xs) (hc : Chg F w w') (hv : ∀ g, v.ownBlock = some g → ¬ F g) : w'.ownsRow base e size v n xs := by
  refine ⟨h.1, ?_⟩
  rcases h.2 with hn | ⟨g, cap, cur, rfl, hb, hgg, rest⟩
  · exact .inl hn
  · refine .inr ⟨g, cap, cur, rfl, hb, ?_, rest⟩
    rw [hc.block g (Array.getElem?_eq_some_iff.1 hgg).1 (hv g rfl)]
    exact hgg
end Go.Proofs.YtokdfdinnaghmaaDoor.Va
