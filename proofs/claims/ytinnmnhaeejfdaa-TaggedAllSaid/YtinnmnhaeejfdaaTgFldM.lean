/- The fields of a record as elements: what they are, and how they lie in memory. -/
import Derived.Test.YtinnmnhaeejfdaaTgR
import Derived.Test.YtinnmnhaeejfdaaTgE
import Derived.Test.YtinnmnhaeejfdaaRegS
import Derived.Deep.MidRow
namespace Go.Proofs.Ytinnmnhaeejfdaa
open Go.RowKit

/-- The elements of values that are not empty, numbered by their places. -/
def fltE : Nat → List (List Int) → List El
  | _, [] => []
  | k, l :: t => if l = [] then fltE (k + 1) t else ((k : Int), l) :: fltE (k + 1) t
/-- A packed number; nothing of what is none. -/
def pkE (s : ByteArray) : List Int := if numB s.data.toList then (List.range ((s.size + 1) / 2)).map (pk s.data.toList) else []
def valsE (r : Rc) : List (List Int) := [[], shE r.s2.toNat, shE r.s0.toNat, shE r.s1.toNat, pkE r.sa, pkE r.sb, shE r.s5.toNat, shE r.s6.toNat, shE r.s7.toNat, shE r.s8.toNat, shE r.s10.toNat, shE (flg r)]
def fldE (r : Rc) : List El := fltE 0 (valsE r)
/-- Its numbers are not negative, and small; its texts are short. -/
structure Rc.Small (r : Rc) : Prop where
  n0 : 0 ≤ r.s0 ∧ r.s0 ≤ 1099511627776
  n1 : 0 ≤ r.s1 ∧ r.s1 ≤ 1099511627776
  n2 : 0 ≤ r.s2 ∧ r.s2 ≤ 1099511627776
  n5 : 0 ≤ r.s5 ∧ r.s5 ≤ 1099511627776
  n6 : 0 ≤ r.s6 ∧ r.s6 ≤ 1099511627776
  n7 : 0 ≤ r.s7 ∧ r.s7 ≤ 1099511627776
  n8 : 0 ≤ r.s8 ∧ r.s8 ≤ 1099511627776
  n10 : 0 ≤ r.s10 ∧ r.s10 ≤ 1099511627776
  la : r.sa.size ≤ 15
  lb : r.sb.size ≤ 15
theorem cz {c : Bool} {a b : Int} (ha : a ≠ 0) (h : (bif c then a else b) = 0) : c = false ∧ b = 0 := by cases c <;> simp_all
theorem inb_of {n a b : Int} (h : inb n a b = true) : a ≤ n ∧ n ≤ b := by simpa [inb] using h
theorem chk_small {r : Rc} (h : chkR r = 0) : r.Small ∧ numB r.sa.data.toList = true ∧ isT r.sb r.s2 = true := by
  unfold chkR chkV at h
  obtain ⟨c0, h⟩ := cz (by decide) h
  obtain ⟨c1, h⟩ := cz (by decide) h
  obtain ⟨c2, h⟩ := cz (by decide) h
  obtain ⟨c3, h⟩ := cz (by decide) h
  obtain ⟨c4, h⟩ := cz (by decide) h
  obtain ⟨-, h⟩ := cz (by decide) h
  obtain ⟨c5, h⟩ := cz (by decide) h
  obtain ⟨-, h⟩ := cz (by decide) h
  obtain ⟨c6, h⟩ := cz (by decide) h
  simp only [Bool.or_eq_false_iff, Bool.not_eq_false'] at c0 c1 c2 c3 c4 c5 c6
  have h0 := inb_of c0.1; have h1 := inb_of c0.2; have h2 := inb_of c1; have h5 := inb_of c3; have h6 := inb_of c4.1; have h7 := inb_of c5.1; have h8 := inb_of c5.2; have h10 := inb_of c6
  refine ⟨⟨by omega, by omega, by omega, by omega, by omega, by omega, by omega, by omega, (num_len c2.1).2, ?_⟩, c2.1, c2.2⟩
  have ht := c2.2
  unfold isT at ht
  split at ht
  · omega
  · exact (num_len ht).2
theorem pk_ran (s : ByteArray) : ∀ x ∈ pkE s, 0 ≤ x ∧ x ≤ 255 := by
  intro x hx
  unfold pkE at hx
  split at hx
  · rename_i hn
    rw [List.mem_map] at hx
    obtain ⟨k, hk, rfl⟩ := hx
    rw [List.mem_range] at hk
    exact pk_nonneg s hn k (by omega)
  · cases hx
theorem pack_any (s : ByteArray) (w : World) (hs : s.size ≤ maxLen) : Calls Try.prog 40 #[.string s] w fun e w' => ∃ v er, e = .returned (.tuple #[v, .int .i64 er]) ∧ Own w' w.heap.size v (pkE s) ∧ Below w.heap.size w w' := by
  cases hn : numB s.data.toList with
  | false =>
    refine (pack_no s w hs hn).mono fun e w' => ?_
    rintro ⟨rfl, rfl⟩
    refine ⟨_, _, rfl, ?_, Below.refl _ _⟩
    unfold pkE; rw [hn]; exact own_none _ _
  | true =>
    refine (pack_ok s w hn).mono fun e w' => ?_
    rintro ⟨v, rfl, ho, hb⟩
    refine ⟨_, _, rfl, ⟨?_, pk_ran s⟩, hb⟩
    have e1 : pkE s = (List.range ((s.size + 1) / 2)).map (pk s.data.toList) := by unfold pkE; rw [hn]; rfl
    have e2 : C8 (pkE s) = pkTo s.data.toList ((s.size + 1) / 2) := by rw [e1]; simp [C8, pkTo]
    have e3 : (pkE s).length = (s.size + 1) / 2 := by rw [e1]; simp
    rw [e2, e3]; exact ho
theorem shortest_z {z : Int} (h : 0 ≤ z ∧ z ≤ 1099511627776) (w : World) : Calls Try.prog 41 #[.int .i64 z] w fun e w' => ∃ v, e = .returned v ∧ Own w' w.heap.size v (shE z.toNat) ∧ Below w.heap.size w w' := by
  obtain ⟨n, rfl⟩ := Int.eq_ofNat_of_zero_le h.1
  rw [Int.toNat_natCast]
  exact shortest_any n (by omega) w
/-- The block that holds a record. -/
def RcB (W : World) (g : Nat) (r : Rc) : Prop := W.heap[g]? = some (.cells r.cells 34 (0, 0))
theorem RcB.below {W W' : World} {g B : Nat} {r : Rc} (h : RcB W g r) (hb : Below B W W') (hg : g < B) : RcB W' g r := by
  unfold RcB at *; rw [hb.block g hg]; exact h
theorem RcB.cells {W : World} {g : Nat} {r : Rc} (h : RcB W g r) : W.cell? ⟨g, 0, none⟩ = some (.int .i64 r.s0) ∧ W.cell? ⟨g, 1, none⟩ = some (.int .i64 r.s1) ∧ W.cell? ⟨g, 2, none⟩ = some (.int .i64 r.s2) ∧ W.cell? ⟨g, 3, none⟩ = some (.string r.sa) ∧ W.cell? ⟨g, 4, none⟩ = some (.string r.sb) ∧ W.cell? ⟨g, 5, none⟩ = some (.int .i64 r.s5) ∧ W.cell? ⟨g, 6, none⟩ = some (.int .i64 r.s6) ∧ W.cell? ⟨g, 7, none⟩ = some (.int .i64 r.s7) ∧ W.cell? ⟨g, 8, none⟩ = some (.int .i64 r.s8) ∧ W.cell? ⟨g, 9, none⟩ = some (.bool r.b9) ∧ W.cell? ⟨g, 10, none⟩ = some (.int .i64 r.s10) ∧ W.cell? ⟨g, 11, none⟩ = some (.bool r.b11) := by
  unfold RcB Rc.cells at h
  simp [World.cell?, h]
theorem rec_world (w : World) (r : Rc) : ∃ L, w.alloc (.cells r.cells 34) = L ∧ Below w.heap.size w L ∧ RcB L w.heap.size r ∧ L.heap.size = w.heap.size + 1 :=
  ⟨_, rfl, below_lit w _, heap_alloc_new w _, by simp⟩
theorem setCells_heap (b : Nat) : ∀ (vs : List Value) (o : Nat) (w : World) (k : Nat), k ≠ b → (w.setCells b o vs).heap[k]? = w.heap[k]?
  | [], _, _, _, _ => rfl
  | v :: vs, o, w, k, h => by
    rw [World.setCells, setCells_heap b vs (o + 1) _ k h]
    simp [World.setCell, Array.getElem?_modify, Ne.symm h]
theorem setCells_size (b : Nat) : ∀ (vs : List Value) (o : Nat) (w : World), (w.setCells b o vs).heap.size = w.heap.size
  | [], _, _ => rfl
  | v :: vs, o, w => by
    rw [World.setCells, setCells_size b vs (o + 1)]
    simp [World.setCell]
theorem setCells_rest (b : Nat) : ∀ (vs : List Value) (o : Nat) (w : World), (w.setCells b o vs).os = w.os ∧ (w.setCells b o vs).tape = w.tape ∧ (w.setCells b o vs).output = w.output
  | [], _, _ => ⟨rfl, rfl, rfl⟩
  | v :: vs, o, w => by
    rw [World.setCells]
    exact setCells_rest b vs (o + 1) _
theorem below_setCells {B : Nat} {a w : World} {b o : Nat} {vs : List Value} (h : Below B a w) (hb : B ≤ b) : Below B a (w.setCells b o vs) := by
  obtain ⟨h1, h2, h3⟩ := setCells_rest b vs o w
  refine ⟨h1.trans h.os, h2.trans h.tape, h3.trans h.output, by rw [setCells_size]; exact h.size, fun k hk => ?_⟩
  rw [setCells_heap b vs o w k (by omega)]
  exact h.block k hk
theorem own_setCells {w : World} {base : Nat} {v : Value} {l : List Int} {b o : Nat} {vs : List Value} (h : Own w base v l) (hne : v.ownBlock ≠ some b) : Own (w.setCells b o vs) base v l := by
  obtain ⟨⟨hl, h2⟩, hr⟩ := h
  refine ⟨⟨hl, ?_⟩, hr⟩
  rcases h2 with h2 | ⟨g, cap, cur, hv, hb, hg, h3⟩
  · exact .inl h2
  · refine .inr ⟨g, cap, cur, hv, hb, ?_, h3⟩
    rw [setCells_heap b vs o w g (fun e => hne (by rw [hv, e]; rfl))]
    exact hg
theorem own_apart {w : World} {base g : Nat} {v : Value} {l : List Int} {cs : Array Value} {t : TypeId} {fr : Nat × Nat} (h : Own w base v l) (hg : w.heap[g]? = some (.cells cs t fr)) (ht : t ≠ 5) : v.ownBlock ≠ some g := by
  obtain ⟨⟨hl, h2⟩, hr⟩ := h
  rcases h2 with ⟨rfl, _⟩ | ⟨g', cap, cur, rfl, hb, hg', h3⟩
  · intro e; cases e
  · intro e
    obtain rfl : g' = g := by simpa [Value.ownBlock] using e
    rw [hg] at hg'
    simp only [Option.some.injEq, Obj.cells.injEq] at hg'
    exact ht hg'.2.1
/-- Twelve slices without bytes. -/
abbrev Z12 : Array Value := #[.slice none 0 0, .slice none 0 0, .slice none 0 0, .slice none 0 0, .slice none 0 0, .slice none 0 0, .slice none 0 0, .slice none 0 0, .slice none 0 0, .slice none 0 0, .slice none 0 0, .slice none 0 0]
/-- Values that lie in memory. -/
def LieV (w : World) (base : Nat) (ls : List (List Int)) (us : List Value) : Prop := us.length = ls.length ∧ ∀ (i : Nat) l, ls[i]? = some l → ∃ u, us[i]? = some u ∧ Own w base u l
theorem LieV.below {w w' : World} {base : Nat} {ls : List (List Int)} {us : List Value} (h : LieV w base ls us) (hb : Below w.heap.size w w') : LieV w' base ls us :=
  ⟨h.1, fun i l hi => by obtain ⟨u, h1, h2⟩ := h.2 i l hi; exact ⟨u, h1, h2.below hb⟩⟩
theorem lie_nil (w : World) (base : Nat) : LieV w base [] [] := ⟨rfl, fun i l hi => by simp at hi⟩
theorem lie_cons {w : World} {base : Nat} {l : List Int} {u : Value} {ls : List (List Int)} {us : List Value} (h : Own w base u l) (ht : LieV w base ls us) : LieV w base (l :: ls) (u :: us) := by
  refine ⟨by simp [ht.1], fun i x hi => ?_⟩
  cases i with
  | zero => obtain rfl : l = x := by simpa using hi
            exact ⟨u, rfl, h⟩
  | succ i => exact ht.2 i x (by simpa using hi)
theorem lie_one {w : World} {base : Nat} {ls : List (List Int)} {us : List Value} (h : LieV w base ls us) : ∀ v ∈ us, v.oneCell' = true := by
  intro v hv
  obtain ⟨i, hi, rfl⟩ := List.mem_iff_getElem.1 hv
  obtain ⟨u, h1, h2⟩ := h.2 i (ls[i]'(by rw [← h.1]; exact hi)) (by simp)
  rw [List.getElem?_eq_getElem hi] at h1
  obtain rfl := Option.some.inj h1
  obtain ⟨A, c, h3, -⟩ := h2.byt
  rw [h3]; rfl
/-- What has been stored of an array: the values lie in it. -/
def ArrP (ls : List (List Int)) (L w : World) (s : Value) : Prop := ∃ g us, s = .pointer (some ⟨g, 0, none⟩) ∧ w.rangeAt g 0 us ∧ LieV w L.heap.size ls us ∧ Below L.heap.size L w
theorem arr_store {ls : List (List Int)} {L w : World} {g : Nat} {us : List Value} {Z : Array Value} (hg : w.heap[g]? = some (.cells Z 70 (0, 0))) (hZ : Z.size = us.length) (hL : L.heap.size ≤ g) (hv : LieV w L.heap.size ls us) (hb : Below L.heap.size L w) :
    ArrP ls L (w.setCells g 0 us) (.pointer (some ⟨g, 0, none⟩)) := by
  refine ⟨g, us, rfl, World.rangeAt_setCells_same w g 0 us (fun j hj => ?_), ⟨hv.1, fun i l hi => ?_⟩, below_setCells hb hL⟩
  · rw [Nat.zero_add]
    simp [World.cell?, World.frozen?, hg]
    omega
  · obtain ⟨u, h1, h2⟩ := hv.2 i l hi
    exact ⟨u, h1, own_setCells h2 (own_apart h2 hg (by decide))⟩
end Go.Proofs.Ytinnmnhaeejfdaa
