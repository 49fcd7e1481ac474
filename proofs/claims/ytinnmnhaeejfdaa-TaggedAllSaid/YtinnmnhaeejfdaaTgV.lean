/- Elements in memory, and the bytes that they turn into. -/
import Derived.Test.YtinnmnhaeejfdaaRows
import Derived.Test.YtinnmnhaeejfdaaByB
import Derived.Maps.Range
import Derived.Maps.RangeWalk
namespace Go.Proofs.Ytinnmnhaeejfdaa
open Go.RowKit

/-- An append of bytes that can be read; behind it where the new slice lies. -/
theorem wpList_append_has_at {P : Program} {w : World} {ops : Array Oper} {rest : List Oper} {o : Oper} {a : Act} {Q : Exit → Act → World → Prop} (hgd : o.guard = none) (s x : Operand) (t : TypeId)
    (ho : o.op = .call { callee := .builtin .append, args := #[s, x], argTypes := #[t, t] })
    (base : Nat) (e : TypeId) (i : TypeInfo) (z : Value) (bytes : Nat) (ht : P.underlying t = some (.slice e)) (hi : P.info? e = some i) (hz : i.zero = some z)
    (hsize : i.size = 1) (hby : i.bytes = bytes) (hzs : z.cells.size = 1)
    (v : Value) (m : Nat) (ys : List Value) (hs : a.eval s = v) (hown : w.ownsRow base e 1 v m ys)
    (A : Option Addr) (n c : Nat) (xs : List Value) (hx : a.eval x = .slice A n c) (hh : Has w A n c xs) (h63 : m + n ≤ maxLen) (hbytes : (m + n) * bytes ≤ 140737488355328) (hbase : base ≤ w.heap.size)
    (h : ∀ v' w', w'.ownsRow base e 1 v' (m + n) (ys ++ xs) → w.grownBy w' v.ownBlock → (v'.ownBlock = v.ownBlock ∨ v'.ownBlock = some w.heap.size) → wpList P ops Q rest (a.put o.dst v') w') : wpList P ops Q (o :: rest) a w := by
  obtain ⟨h1, h2, h3⟩ := hh
  rcases h3 with ⟨rfl, rfl, rfl⟩ | ⟨y, rfl, h3⟩
  · have hxs : xs = [] := List.length_eq_zero_iff.1 h1
    subst hxs
    exact wpList_append_own_none hgd s x t ho base e i 1 ht hi v m ys hs hown hx (h v w (by simpa using hown) (World.grownBy.refl w _) (.inl rfl))
  · exact wpList_append_own_at _ hgd s x t ho base e i z 1 bytes ht hi hz hsize hby hzs (by decide) v m ys hs hown y n c xs hx (by omega) (fun j u hj => (h3 j u hj).2) h2 h63 hbytes hbase fun v' w' g1 g2 _ g3 => h v' w' g1 g2 g3

abbrev El := Int × List Int
/-- The bytes of elements. -/
def putE : List El → List Int
  | [] => []
  | e :: t => e.1 :: ((e.2.length : Int) :: (e.2 ++ putE t))
/-- A slice of elements that can be read, and that lies apart from a row. -/
structure Els (w : World) (A : Option Addr) (n : Nat) (es : List El) (row : Option Nat) : Prop where
  len : es.length = n
  elem : ∀ k e, es[k]? = some e → ∃ b off B m d, A = some ⟨b, off, none⟩ ∧ b < w.heap.size ∧ row ≠ some b ∧ w.cell? ⟨b, off + k * 2, none⟩ = some (.int .i64 e.1) ∧ w.cell? ⟨b, off + k * 2 + 1, none⟩ = some (.slice B m d) ∧ Byt w B m d e.2 ∧ ∀ x, B = some x → e.2 ≠ [] → row ≠ some x.block
theorem Els.grown {w w' : World} {A : Option Addr} {n : Nat} {es : List El} {row : Option Nat} (h : Els w A n es row) (hg : w.grownBy w' row) : Els w' A n es row := by
  refine ⟨h.len, fun k e hk => ?_⟩
  obtain ⟨b, off, B, m, d, hA, hb, hr, h0, h1, hB, hx⟩ := h.elem k e hk
  exact ⟨b, off, B, m, d, hA, Nat.lt_of_lt_of_le hb hg.size, hr, hg.cell h0 (fun e' => hr e'.symm), hg.cell h1 (fun e' => hr e'.symm), hB.grown hg hx, hx⟩
/-- What holds of the elements of a valid list. -/
def elOk (e : El) : Prop := 0 ≤ e.1 ∧ e.1 ≤ 255 ∧ e.2.length ≤ 255
theorem putE_app (a b : List El) : putE (a ++ b) = putE a ++ putE b := by
  induction a with
  | nil => rfl
  | cons e t ih => simp [putE, ih]
theorem cell_two_new (w : World) (a b : Value) (t : TypeId) : ∀ j u, [a, b][j]? = some u → (w.alloc (.cells #[a, b] t)).cell? ((⟨w.heap.size, 0, none⟩ : Addr).add j) = some u := by
  intro j u hu
  have h := heap_alloc_new w (.cells #[a, b] t)
  rw [add_none, Nat.zero_add]
  simp only [World.cell?, h]
  simpa using hu
theorem cell_two_new' {w : World} {H : Nat} (hH : w.heap.size = H) (a b : Value) (t : TypeId) : ∀ j u, [a, b][j]? = some u → (w.alloc (.cells #[a, b] t)).cell? ((⟨H, 0, none⟩ : Addr).add j) = some u := by
  subst hH; exact cell_two_new w a b t
theorem one_two (a b : Int) : ∀ u ∈ [Value.int .u8 a, .int .u8 b], u.oneCell' = true := by
  intro u hu
  simp only [List.mem_cons, List.not_mem_nil, or_false] at hu
  rcases hu with rfl | rfl <;> rfl
/-- Bytes of one's own that have grown since a world 'w', where they were v. -/
structure Ap (w : World) (v : Value) (base : Nat) (L : List Int) (v' : Value) (w' : World) : Prop where
  own : Own w' base v' L
  grown : w.grownBy w' v.ownBlock
  lies : v'.ownBlock = v.ownBlock ∨ ∀ x, v'.ownBlock = some x → w.heap.size ≤ x
theorem Ap.row {w : World} {v : Value} {base : Nat} {L : List Int} {v1 : Value} {w1 : World} (h : Ap w v base L v1 w1) : ∀ j, v1.ownBlock = some j → w.heap.size ≤ j ∨ v.ownBlock = some j := fun j hj => by
  rcases h.lies with h1 | h1
  · exact .inr (h1 ▸ hj)
  · exact .inl (h1 j hj)
theorem Ap.more {w : World} {v : Value} {base : Nat} {L L' : List Int} {v1 v2 : Value} {w1 wx w2 : World} (h : Ap w v base L v1 w1) (hx : w1.grownBy wx none) (hg : wx.grownBy w2 v1.ownBlock) (ha : v2.ownBlock = v1.ownBlock ∨ v2.ownBlock = some wx.heap.size) (ho : Own w2 base v2 L') : Ap w v base L' v2 w2 := by
  refine ⟨ho, h.grown.andThen ((hx.but _).trans hg) h.row, ?_⟩
  have hs := Nat.le_trans h.grown.size hx.size
  rcases ha with ha | ha
  · rw [ha]; exact h.lies
  · refine .inr fun x hx' => ?_
    rw [ha] at hx'
    obtain rfl := Option.some.inj hx'
    exact hs
theorem Ap.two {w : World} {v : Value} {base : Nat} {L : List Int} {v1 v4 : Value} {wr w4 : World} (hp : Ap w v base L v1 wr) (o1 o2 : Obj) {t m : Int} (ht : 0 ≤ t ∧ t ≤ 255) (hm : 0 ≤ m ∧ m ≤ 255)
    (hown4 : w4.ownsRow base 5 1 v4 (L.length + 2) (C8 L ++ [.int .u8 (t % 256), .int .u8 (m % 256)])) (hg4 : ((wr.alloc o1).alloc o2).grownBy w4 v1.ownBlock) (hat4 : v4.ownBlock = v1.ownBlock ∨ v4.ownBlock = some ((wr.alloc o1).alloc o2).heap.size) : Ap w v base (L ++ [t, m]) v4 w4 := by
  rw [Int.emod_eq_of_lt ht.1 (by omega), Int.emod_eq_of_lt hm.1 (by omega)] at hown4
  have hal : wr.grownBy ((wr.alloc o1).alloc o2) none := (World.grownBy_alloc wr o1 none).trans (World.grownBy_alloc _ o2 none)
  refine hp.more hal hg4 hat4 ⟨?_, ran_app hp.own.2 ?_⟩
  · rw [C8_app, List.length_append]
    exact hown4
  · intro x hx
    simp only [List.mem_cons, List.not_mem_nil, or_false] at hx
    rcases hx with rfl | rfl
    · exact ht
    · exact hm
theorem Ap.two' {w : World} {v : Value} {base : Nat} {L : List Int} {v1 v4 : Value} {wr w4 : World} (hp : Ap w v base L v1 wr) (o1 o2 : Obj) {t m : Int} (ht : 0 ≤ t ∧ t ≤ 255) (hm : 0 ≤ m ∧ m ≤ 255)
    (hown4 : w4.ownsRow base 5 1 v4 (L.length + 2) (C8 L ++ [.int .u8 t, .int .u8 m])) (hg4 : ((wr.alloc o1).alloc o2).grownBy w4 v1.ownBlock) (hat4 : v4.ownBlock = v1.ownBlock ∨ v4.ownBlock = some ((wr.alloc o1).alloc o2).heap.size) : Ap w v base (L ++ [t, m]) v4 w4 :=
  hp.two o1 o2 ht hm (by rw [Int.emod_eq_of_lt ht.1 (by omega), Int.emod_eq_of_lt hm.1 (by omega)]; exact hown4) hg4 hat4
theorem Ap.field {w : World} {v : Value} {base : Nat} {L : List Int} {v1 : Value} {wr w4 : World} (hp : Ap w v base L v1 wr) {a b : Value} {ty : TypeId} {o2 : Obj} (hg4 : ((wr.alloc (.cells #[a, b] ty)).alloc o2).grownBy w4 v1.ownBlock) : w4.cell? ⟨wr.heap.size, 1, none⟩ = some b ∧ wr.heap.size + 2 ≤ w4.heap.size := by
  have h1 : ((wr.alloc (.cells #[a, b] ty)).alloc o2).cell? ⟨wr.heap.size, 1, none⟩ = some b := by
    have h := heap_alloc_old (wr.alloc (.cells #[a, b] ty)) o2 (by simp : wr.heap.size < _)
    have h' := heap_alloc_new wr (.cells #[a, b] ty)
    simp only [World.cell?, h, h']
    rfl
  refine ⟨hg4.cell h1 (fun e' => ?_), ?_⟩
  · have h9 : v1.ownBlock = some wr.heap.size := e'.symm
    have := (World.ownsRow.lt hp.own.1 _ h9).2
    omega
  · have := hg4.size
    simp at this
    omega
theorem heap_size_alloc2 (w : World) (o p : Obj) : ((w.alloc o).alloc p).heap.size = w.heap.size + 2 := by simp
/-- What a call gives that appends bytes to a row of one's own. -/
def PutP (v : Value) (base : Nat) (L : List Int) (w : World) (e : Ending) (w' : World) : Prop :=
  ∃ v', e = .returned v' ∧ Ap w v base L v' w'
theorem Ap.first {wr : World} {v v5 : Value} {base : Nat} {L : List Int} {a b : Value} {ty : TypeId} {o2 : Obj} {w5 : World} (h : Ap ((wr.alloc (.cells #[a, b] ty)).alloc o2) v base L v5 w5) (hr : ∀ g, v.ownBlock = some g → g < wr.heap.size) : w5.cell? ⟨wr.heap.size, 0, none⟩ = some a := by
  have h1 : ((wr.alloc (.cells #[a, b] ty)).alloc o2).cell? ⟨wr.heap.size, 0, none⟩ = some a := by
    have h := heap_alloc_old (wr.alloc (.cells #[a, b] ty)) o2 (by simp : wr.heap.size < _)
    have h' := heap_alloc_new wr (.cells #[a, b] ty)
    simp only [World.cell?, h, h']
    rfl
  refine h.grown.cell h1 (fun e' => ?_)
  have h9 : v.ownBlock = some wr.heap.size := e'.symm
  have := hr _ h9
  omega
theorem Ap.fields {w : World} {v : Value} {base : Nat} {L : List Int} {v1 v4 : Value} {wr w4 : World} (hp : Ap w v base L v1 wr) {a b : Value} {ty : TypeId} {o2 : Obj} (hg4 : ((wr.alloc (.cells #[a, b] ty)).alloc o2).grownBy w4 v1.ownBlock) (hat4 : v4.ownBlock = v1.ownBlock ∨ v4.ownBlock = some ((wr.alloc (.cells #[a, b] ty)).alloc o2).heap.size) :
    w4.cell? ⟨wr.heap.size, 0, none⟩ = some a ∧ w4.cell? ⟨wr.heap.size, 1, none⟩ = some b ∧ some wr.heap.size ≠ v4.ownBlock := by
  have hlt : ∀ g, v1.ownBlock = some g → g < wr.heap.size := fun g hg => (World.ownsRow.lt hp.own.1 g hg).2
  have h0 : ((wr.alloc (.cells #[a, b] ty)).alloc o2).cell? ⟨wr.heap.size, 0, none⟩ = some a := by
    have h := heap_alloc_old (wr.alloc (.cells #[a, b] ty)) o2 (by simp : wr.heap.size < _)
    have h' := heap_alloc_new wr (.cells #[a, b] ty)
    simp only [World.cell?, h, h']
    rfl
  refine ⟨hg4.cell h0 (fun e' => ?_), (hp.field hg4).1, fun e' => ?_⟩
  · have h9 : v1.ownBlock = some wr.heap.size := e'.symm
    have := hlt _ h9
    omega
  · rcases hat4 with h | h
    · have := hlt wr.heap.size (h ▸ e'.symm)
      omega
    · rw [← e', heap_size_alloc2] at h
      have := Option.some.inj h
      omega
/-- The error of a list of elements; 0 if it is valid. -/
def bldE : List El → Int → Int
  | [], _ => 0
  | e :: r, p => if e.1 < 1 ∨ 255 < e.1 then 6 else if e.1 ≤ p then 9 else if 255 < (e.2.length : Int) then 5 else bldE r e.1
/-- What Build gives. -/
def BldP (es : List El) (w : World) (e : Ending) (w' : World) : Prop :=
  (if bldE es 0 = 0 then ∃ v, e = .returned (.tuple #[v, .int .i64 0]) ∧ Own w' w.heap.size v (putE es) else e = .returned (.tuple #[.slice none 0 0, .int .i64 (bldE es 0)])) ∧ Below w.heap.size w w'
theorem BldP.no {es : List El} {w : World} {e : Ending} {w' : World} {x : Int} (h : bldE es 0 = x) (hx : x ≠ 0) (he : e = .returned (.tuple #[.slice none 0 0, .int .i64 x])) (hb : Below w.heap.size w w') : BldP es w e w' := by
  subst h
  exact ⟨by rw [if_neg hx]; exact he, hb⟩
theorem BldP.yes {es : List El} {w : World} {e : Ending} {w' : World} {v : Value} (h : bldE es 0 = 0) (he : e = .returned (.tuple #[v, .int .i64 0])) (ho : Own w' w.heap.size v (putE es)) (hb : Below w.heap.size w w') : BldP es w e w' :=
  ⟨by rw [if_pos h]; exact ⟨v, he, ho⟩, hb⟩
/-- One element, laid as a list of its own behind bytes of one's own. -/
theorem els_one {wr : World} {B : Option Addr} {m d : Nat} {t : Int} {l : List Int} {row : Option Nat} (o1 : Obj) {ty : TypeId} (hB : Byt wr B m d l) (hx : ∀ x, B = some x → l ≠ [] → row ≠ some x.block) (hr : ∀ g, row = some g → g < wr.heap.size) :
    Els ((wr.alloc o1).alloc (.cells #[.int .i64 t, .slice B m d] ty)) (some ⟨wr.heap.size + 1, 0, none⟩) 1 [(t, l)] row := by
  refine ⟨rfl, fun k e hk => ?_⟩
  obtain rfl : k = 0 := by
    cases k with
    | zero => rfl
    | succ k => simp at hk
  obtain rfl : (t, l) = e := by simpa using hk
  have hg : wr.grownBy ((wr.alloc o1).alloc (.cells #[.int .i64 t, .slice B m d] ty)) row := (World.grownBy_alloc wr o1 row).trans (World.grownBy_alloc _ _ row)
  have h' := heap_alloc_new (wr.alloc o1) (.cells #[.int .i64 t, .slice B m d] ty)
  have hs : (wr.alloc o1).heap.size = wr.heap.size + 1 := by simp
  rw [hs] at h'
  refine ⟨wr.heap.size + 1, 0, B, m, d, rfl, by rw [heap_size_alloc2]; omega, fun h => by have := hr _ h; omega, ?_, ?_, hB.grown hg hx, hx⟩
  · simp only [World.cell?, h']; rfl
  · simp only [World.cell?, h']; rfl
end Go.Proofs.Ytinnmnhaeejfdaa
