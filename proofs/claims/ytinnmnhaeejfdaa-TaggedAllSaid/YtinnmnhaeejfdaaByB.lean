/- Bytes in memory: what the walks of whatever package need. -/
import Derived.Test.YtinnmnhaeejfdaaLawKit
import Derived.Test.YtinnmnhaeejfdaaCdK
import Derived.Deep.AppendLies
import Derived.Deep.QuietTactic
import Derived.BigQuiet
import Derived.Laws.CopyOwn
import Derived.Lib.Hide
import Derived.Maps.AppendAt
import Derived.Laws.AppendOwnNone
import Derived.Lib.AppendStr
namespace Go.Proofs.Ytinnmnhaeejfdaa
open Go.RowKit

theorem byteInfo : (Try.prog.info? 5).map (fun i => (i.zero, i.size, i.bytes)) = some (some (.int .u8 0), 1, 1) := by kernel_rfl
/-- The cells of bytes. -/
def C8 (l : List Int) : List Value := l.map (Value.int .u8)
theorem C8_len (l : List Int) : (C8 l).length = l.length := by simp [C8]
theorem C8_app (a b : List Int) : C8 (a ++ b) = C8 a ++ C8 b := by simp [C8]
theorem C8_one (l : List Int) : ∀ u ∈ C8 l, u.oneCell' = true := by
  intro u hu; simp [C8] at hu; obtain ⟨z, _, rfl⟩ := hu; rfl
theorem C8_at {l : List Int} {j : Nat} (h : j < l.length) : (C8 l)[j]? = some (.int .u8 l[j]) := by simp [C8, h]

/-- A slice of bytes that can be read. -/
structure Byt (w : World) (A : Option Addr) (n c : Nat) (l : List Int) : Prop where
  has : Has w A n c (C8 l)
  cap : n ≤ c
  max : c ≤ maxLen
  ran : ∀ x ∈ l, 0 ≤ x ∧ x ≤ 255
theorem Byt.len {w : World} {A : Option Addr} {n c : Nat} {l : List Int} (h : Byt w A n c l) : l.length = n := by
  have := h.has.1; rwa [C8_len] at this
theorem Byt.below {w w' : World} {A : Option Addr} {n c : Nat} {l : List Int} (h : Byt w A n c l) (hb : Below w.heap.size w w') : Byt w' A n c l := ⟨h.has.below hb, h.cap, h.max, h.ran⟩
theorem Byt.nil0 {w : World} {A : Option Addr} {n c : Nat} {l : List Int} (h : Byt w A n c l) : A = none → n = 0 ∧ c = 0 := fun h0 => ⟨(h.has.nil h0).1, (h.has.nil h0).2.1⟩
theorem byt_nil (w : World) : Byt w none 0 0 [] := ⟨⟨rfl, by intro u hu; simp [C8] at hu, .inl ⟨rfl, rfl, rfl⟩⟩, Nat.le_refl _, by unfold maxLen; omega, by intro x hx; cases hx⟩
/-- The call's own bytes. -/
def Own (w : World) (base : Nat) (v : Value) (l : List Int) : Prop := w.ownsRow base 5 1 v l.length (C8 l) ∧ ∀ x ∈ l, 0 ≤ x ∧ x ≤ 255
/-- What a call gives: bytes of its own; below 'base' nothing has turned. -/
def Gives (w : World) (base : Nat) (l : List Int) (e : Ending) (w' : World) : Prop := ∃ v, e = .returned v ∧ Own w' base v l ∧ Below base w w'
theorem Own.byt {w : World} {base : Nat} {v : Value} {l : List Int} (h : Own w base v l) : ∃ A c, v = .slice A l.length c ∧ Byt w A l.length c l := by
  obtain ⟨A, c, rfl, _, _⟩ := own_form h.1
  obtain ⟨_, hh⟩ := has_own h.1 (C8_one l)
  have := own_cap h.1
  exact ⟨A, c, rfl, hh, this.1, this.2, h.2⟩
theorem Own.bytm {w : World} {base : Nat} {v : Value} {l : List Int} (h : Own w base v l) : ∃ A m c, v = .slice A m c ∧ Hid (m = l.length) ∧ Byt w A m c l := by
  obtain ⟨A, c, h1, h2⟩ := h.byt
  exact ⟨A, _, c, h1, rfl, h2⟩
theorem own_none (w : World) (base : Nat) : Own w base (.slice none 0 0) [] := ⟨World.ownsRow_nil _ _ _ _, by intro x hx; cases hx⟩
theorem drop_at {l : List Int} {k : Nat} {x : Int} (h : l[k]? = some x) : l.drop k = x :: l.drop (k + 1) := by
  obtain ⟨hk, rfl⟩ := List.getElem?_eq_some_iff.1 h
  exact List.drop_eq_getElem_cons hk
theorem Own.mono {w : World} {b b' : Nat} {v : Value} {l : List Int} (h : Own w b v l) (hb : b' ≤ b) : Own w b' v l := ⟨own_mono h.1 hb, h.2⟩
theorem ran_app {a b : List Int} (ha : ∀ x ∈ a, 0 ≤ x ∧ x ≤ 255) (hb : ∀ x ∈ b, 0 ≤ x ∧ x ≤ 255) : ∀ x ∈ a ++ b, 0 ≤ x ∧ x ≤ 255 := by
  intro x hx
  rcases List.mem_append.1 hx with h | h
  · exact ha x h
  · exact hb x h

theorem Byt.full {w : World} {A : Option Addr} {n c : Nat} {l : List Int} (h : Byt w A n c l) : Byt w A n n l := by
  refine ⟨?_, Nat.le_refl _, Nat.le_trans h.cap h.max, h.ran⟩
  obtain ⟨h1, h2, h3⟩ := h.has
  refine ⟨h1, h2, ?_⟩
  rcases h3 with ⟨a, b, c⟩ | h3
  · exact .inl ⟨a, b, b⟩
  · exact .inr h3

theorem Byt.at {w : World} {A : Option Addr} {n c : Nat} {l : List Int} (h : Byt w A n c l) {k : Nat} (hk : k < n) : ∃ b off x, A = some ⟨b, off, none⟩ ∧ l[k]? = some x ∧ w.cell? ⟨b, off + k, none⟩ = some (.int .u8 x) ∧ b < w.heap.size := by
  have hl := h.len
  obtain ⟨h1, h2, h3⟩ := h.has
  rcases h3 with ⟨_, h4, _⟩ | ⟨a, rfl, h3⟩
  · omega
  · obtain ⟨b, off, rfl, hb, hc⟩ := row_cells (w := w) (x := a) (n := n) (f := fun i => .int .u8 (l.getD i 0)) (fun i hi => by
      have := h3 i (.int .u8 (l.getD i 0)) (by rw [C8_at (by omega)]; simp [List.getD, List.getElem?_eq_getElem (show i < l.length by omega)])
      exact this.2) (by omega)
    refine ⟨b, off, l[k], rfl, by simp, ?_, hb⟩
    rw [hc k hk]
    simp [List.getD, List.getElem?_eq_getElem (show k < l.length by omega)]
theorem byt_drop {w : World} {b off n c : Nat} {l : List Int} (h : Byt w (some ⟨b, off, none⟩) n c l) (k : Nat) (hk : k ≤ n) : Byt w (some ⟨b, off + k, none⟩) (n - k) (c - k) (l.drop k) := by
  obtain ⟨⟨h1, h2, h3⟩, h4, h5, h6⟩ := h
  refine ⟨⟨?_, C8_one _, .inr ⟨_, rfl, fun j u hj => ?_⟩⟩, by omega, by omega, fun x hx => h6 x (List.mem_of_mem_drop hx)⟩
  · rw [C8_len] at h1 ⊢; rw [List.length_drop]; omega
  · rcases h3 with ⟨h, _⟩ | ⟨x, hx, h3⟩
    · cases h
    · obtain rfl := Option.some.inj hx
      have := h3 (k + j) u (by rw [← hj]; simp [C8])
      rw [add_none] at this ⊢
      rw [← Nat.add_assoc] at this
      exact this
theorem byt_take {w : World} {A : Option Addr} {n c : Nat} {l : List Int} (h : Byt w A n c l) (k : Nat) (hk : k ≤ n) : Byt w A k c (l.take k) := by
  have ht := h.has.take k hk c (fun h0 => (h.nil0 h0).2)
  exact ⟨by simpa [C8] using ht, Nat.le_trans hk h.cap, h.max, fun x hx => h.ran x (List.mem_of_mem_take hx)⟩
theorem byt_none {w : World} {A : Option Addr} {c : Nat} (hc : c ≤ maxLen) (hA : A = none → c = 0) : Byt w A 0 c [] := by
  refine ⟨⟨rfl, C8_one _, ?_⟩, Nat.zero_le _, hc, by intro x hx; cases hx⟩
  cases A with
  | none => exact .inl ⟨rfl, rfl, hA rfl⟩
  | some x => exact .inr ⟨x, rfl, fun j u hj => by simp [C8] at hj⟩

theorem byt_dropm {w : World} {A : Option Addr} {n c : Nat} {l : List Int} (h : Byt w A n c l) (k : Nat) (hk : k ≤ n) : Byt w (Option.map (fun x => x.add k) A) (n - k) (c - k) (l.drop k) := by
  have hl := h.len
  by_cases h0 : n - k = 0
  · rw [h0, List.drop_eq_nil_of_le (by omega)]
    refine byt_none (by have := h.max; omega) (fun hA => ?_)
    cases A with
    | none => have := h.nil0 rfl; omega
    | some x => cases hA
  · obtain ⟨b, off, x, rfl, _⟩ := h.at (k := 0) (by omega)
    rw [Option.map_some, add_none]
    exact byt_drop h k hk
theorem conv_zero {P : Program} (w : World) (src e : TypeId) (hs : P.underlying src = some (.slice e)) (he : P.underlying e = some (.int .u8)) (p : Option Addr) (c : Nat) :
    ∀ dst, P.underlying dst = some .string → (convert src dst (.slice p 0 c)).run P w = .ok (.string ByteArray.empty) w := by
  intro dst hd
  rw [run_convert_bytes_string w src dst e _ 0 c hs he hd]
  cases p <;> simp [Conv.bytesToString, loadCells]
  all_goals rfl
theorem byt_conv {w : World} {A : Option Addr} {n c : Nat} {l : List Int} (h : Byt w A n c l) :
    (convert 25 9 (.slice A n c)).run Try.prog w = .ok (.string (strOfNums l)) w := by
  have hl := h.len
  rcases Nat.eq_zero_or_pos n with rfl | hn
  · have : l = [] := List.length_eq_zero_iff.1 hl
    subst this
    exact conv_zero w _ _ Try.underlying25 Try.underlying5 A c _ Try.underlying9
  · obtain ⟨h1, h2, h3⟩ := h.has
    rcases h3 with ⟨_, h4, _⟩ | ⟨x, rfl, h3⟩
    · omega
    · obtain ⟨b, off, rfl, hb, hc⟩ := row_cells (w := w) (x := x) (n := n) (f := fun i => .int .u8 (l.getD i 0)) (fun i hi => by
        have := h3 i (.int .u8 (l.getD i 0)) (by rw [C8_at (by omega)]; simp [List.getD, List.getElem?_eq_getElem (show i < l.length by omega)])
        exact this.2) hn
      exact run_convert_bytes_arg w _ _ Try.underlying25 Try.underlying5 b off n c l hl hc _ Try.underlying9
theorem strOf_inj : ∀ {a b : List Int}, (∀ x ∈ a, 0 ≤ x ∧ x ≤ 255) → (∀ x ∈ b, 0 ≤ x ∧ x ≤ 255) → a.map (fun n => UInt8.ofNat n.toNat) = b.map (fun n => UInt8.ofNat n.toNat) → a = b
  | [], [], _, _, _ => rfl
  | [], _ :: _, _, _, h => by simp at h
  | _ :: _, [], _, _, h => by simp at h
  | x :: a, y :: b, ha, hb, h => by
    rw [List.map_cons, List.map_cons, List.cons.injEq] at h
    have hx := ha x (List.mem_cons_self ..)
    have hy := hb y (List.mem_cons_self ..)
    have e : x = y := by
      have := congrArg UInt8.toNat h.1
      simp at this
      omega
    rw [e, strOf_inj (fun z hz => ha z (List.mem_cons_of_mem _ hz)) (fun z hz => hb z (List.mem_cons_of_mem _ hz)) h.2]
theorem strOf_eq {a b : List Int} (ha : ∀ x ∈ a, 0 ≤ x ∧ x ≤ 255) (hb : ∀ x ∈ b, 0 ≤ x ∧ x ≤ 255) : (strOfNums a = strOfNums b) ↔ a = b := by
  refine ⟨fun h => strOf_inj ha hb ?_, fun h => by rw [h]⟩
  rw [← strOfNums_data, ← strOfNums_data, h]

theorem ret_bool' {a b : Bool} (h : a = b) : Ending.returned (.bool a) = Ending.returned (.bool b) := by rw [h]
/-- The bytes of a text. -/
def strB (s : ByteArray) : List Int := s.data.toList.map fun b => (b.toNat : Int)
theorem strB_len (s : ByteArray) : (strB s).length = s.size := by simp [strB]
theorem strB_ran (s : ByteArray) : ∀ x ∈ strB s, 0 ≤ x ∧ x ≤ 255 := by
  intro x hx
  simp only [strB, List.mem_map] at hx
  obtain ⟨b, _, rfl⟩ := hx
  have := b.toNat_lt
  omega
theorem strB_cells (s : ByteArray) : Lib.strCells s = C8 (strB s) := by simp [Lib.strCells, C8, strB]
theorem strB_back (s : ByteArray) : strOfNums (strB s) = s := by
  obtain ⟨d⟩ := s
  have e : ((fun n : Int => UInt8.ofNat n.toNat) ∘ fun b : UInt8 => (b.toNat : Int)) = id := by funext b; simp
  simp [strOfNums, strB, e]
theorem strB_of {l : List Int} (h : ∀ x ∈ l, 0 ≤ x ∧ x ≤ 255) : strB (strOfNums l) = l := by
  unfold strB
  rw [strOfNums_data, List.map_map]
  conv => rhs; rw [← List.map_id l]
  apply List.map_congr_left
  intro x hx
  have := h x hx
  simp; omega
theorem below_drawn {B : Nat} {a w : World} (h : Below B a w) (n : Nat) : Below B a (w.drewN n) := ⟨h.os, h.tape, h.output, h.size, h.block⟩
theorem own_full {w : World} {base g n : Nat} {e : TypeId} {xs : List Value} (h : w.ownsRow base e 1 (.slice (some ⟨g, 0, none⟩) n n) n xs) : base ≤ g ∧ w.heap[g]? = some (.cells xs.toArray e (0, 0)) ∧ n ≤ maxLen := by
  rcases h.2 with ⟨hv, _⟩ | ⟨g', cap, cur, hv, hb, hg, hnc, hcm, hcs, htake⟩
  · cases hv
  · simp only [Value.slice.injEq, Option.some.injEq, Addr.mk.injEq, and_true, true_and] at hv
    obtain ⟨rfl, rfl⟩ := hv
    refine ⟨hb, ?_, hcm⟩
    have : xs.toArray = cur := by
      rw [← htake, List.take_of_length_le (by simp; omega)]
    rw [this]; exact hg
theorem own_of {w : World} {base g n : Nat} {e : TypeId} {xs : List Value} (hb : base ≤ g) (hg : w.heap[g]? = some (.cells xs.toArray e (0, 0))) (hn : n ≤ maxLen) (hl : xs.length = n) : w.ownsRow base e 1 (.slice (some ⟨g, 0, none⟩) n n) n xs :=
  ⟨by omega, .inr ⟨g, n, xs.toArray, rfl, hb, hg, Nat.le_refl _, hn, by simp [hl], by simp [← hl]⟩⟩
theorem splice_all {L cs : List Value} (h : cs.length = L.length) : splice L 0 cs = cs := by
  unfold splice; rw [List.drop_eq_nil_of_le (by omega)]; simp
theorem Byt.src {w : World} {A : Option Addr} {n c : Nat} {l : List Int} (h : Byt w A n c l) (h0 : 0 < (C8 l).length) : ∃ ad, A = some ad ∧ ∀ j v, (C8 l)[j]? = some v → w.cell? (ad.add j) = some v := by
  obtain ⟨h1, h2, h3⟩ := h.has
  rcases h3 with ⟨_, h4, _⟩ | ⟨x, e, h3⟩
  · omega
  · exact ⟨x, e, fun j v hv => (h3 j v hv).2⟩


theorem byt_lit (w : World) (l : List Int) (hr : ∀ x ∈ l, 0 ≤ x ∧ x ≤ 255) (hn : l.length ≤ maxLen) : Byt (w.alloc (.cells (C8 l).toArray 5)) (some ⟨w.heap.size, 0, none⟩) l.length l.length l := by
  refine ⟨⟨C8_len l, C8_one l, .inr ⟨_, rfl, fun j u hu => ⟨by simp, ?_⟩⟩⟩, Nat.le_refl _, hn, hr⟩
  have h := heap_alloc_new w (.cells (C8 l).toArray 5)
  rw [add_none, Nat.zero_add]
  simp only [World.cell?, h]
  simpa using hu
theorem below_lit (w : World) (o : Obj) : Below w.heap.size w (w.alloc o) := (Below.refl _ _).alloc (Nat.le_refl _) o
theorem lit_world (w : World) (l : List Int) (hr : ∀ x ∈ l, 0 ≤ x ∧ x ≤ 255) (hn : l.length ≤ maxLen) : ∃ L, w.alloc (.cells (C8 l).toArray 5) = L ∧ Below w.heap.size w L ∧ Byt L (some ⟨w.heap.size, 0, none⟩) l.length l.length l := ⟨_, rfl, below_lit w _, byt_lit w l hr hn⟩
theorem Own.below {w w' : World} {base : Nat} {v : Value} {L : List Int} (h : Own w base v L) (hb : Below w.heap.size w w') : Own w' base v L :=
  ⟨h.1.kept (row := none) ⟨hb.os, hb.tape, hb.output, hb.size, fun k hk _ => hb.block k hk⟩ (by cases hv : v.ownBlock with
    | none => exact .inl rfl
    | some x => exact .inr (by simp)), h.2⟩
theorem drop_at' {α : Type} {l : List α} {k : Nat} {x : α} (h : l[k]? = some x) : l.drop k = x :: l.drop (k + 1) := by
  obtain ⟨hk, rfl⟩ := List.getElem?_eq_some_iff.1 h
  exact List.drop_eq_getElem_cons hk

theorem Byt.grown {w w' : World} {A : Option Addr} {n c : Nat} {l : List Int} {row : Option Nat} (h : Byt w A n c l) (hg : w.grownBy w' row) (hd : ∀ x, A = some x → l ≠ [] → row ≠ some x.block) : Byt w' A n c l := by
  obtain ⟨⟨h1, h2, h3⟩, h4, h5, h6⟩ := h
  refine ⟨⟨h1, h2, ?_⟩, h4, h5, h6⟩
  rcases h3 with h3 | ⟨x, e, h3⟩
  · exact .inl h3
  · refine .inr ⟨x, e, fun j u hu => ?_⟩
    obtain ⟨h7, h8⟩ := h3 j u hu
    have hne : l ≠ [] := by rintro rfl; simp [C8] at hu
    have hx : (x.add j).block = x.block := by unfold Addr.add; split <;> rfl
    exact ⟨Nat.lt_of_lt_of_le h7 hg.size, hg.cell h8 (by rw [hx]; exact fun e' => hd x e hne e'.symm)⟩
theorem Byt.in {w : World} {A : Option Addr} {n c : Nat} {l : List Int} (h : Byt w A n c l) : ∀ x, A = some x → l ≠ [] → x.block < w.heap.size := by
  intro x hx hne
  obtain ⟨h1, _, h3⟩ := h.has
  rcases h3 with ⟨h4, _, _⟩ | ⟨y, e, h3⟩
  · rw [h4] at hx; cases hx
  · rw [hx] at e
    obtain rfl := Option.some.inj e
    cases l with
    | nil => exact absurd rfl hne
    | cons a t => exact (h3 0 (.int .u8 a) rfl).1
theorem Own.far {w : World} {base : Nat} {A : Option Addr} {n c : Nat} {l : List Int} (h : Own w base (.slice A n c) l) : ∀ x, A = some x → l ≠ [] → base ≤ x.block ∧ x.block < w.heap.size := by
  intro x hx hne
  obtain ⟨A', c', hv, _, hg⟩ := own_form h.1
  simp only [Value.slice.injEq] at hv
  obtain ⟨rfl, _, _⟩ := hv
  obtain ⟨g, hg1, hg2, hg3, _⟩ := hg (by cases l with
    | nil => exact absurd rfl hne
    | cons a t => simp)
  rw [hx] at hg1
  obtain rfl := Option.some.inj hg1
  exact ⟨hg2, hg3⟩
theorem row_keep {w w' : World} {base e n : Nat} {v : Value} {xs : List Value} (h : w.ownsRow base e 1 v n xs) (hb : Below w.heap.size w w') : w'.ownsRow base e 1 v n xs :=
  h.kept (row := none) ⟨hb.os, hb.tape, hb.output, hb.size, fun k hk _ => hb.block k hk⟩ (by cases hv : v.ownBlock with
    | none => exact .inl rfl
    | some x => exact .inr (by simp))
theorem byt_of_row {w : World} {a : Option Addr} {len cap : Nat} {zs : List Int} (h : IsRow .u8 w a len cap zs) : Byt w a len cap (zs.take len) := by
  have hh := has_row h
  rcases h with ⟨rfl, rfl, rfl, rfl⟩ | ⟨x, rfl, hl, hm, hz, hc, hw⟩
  · exact byt_nil w
  · exact ⟨hh, hl, hm, fun z hz' => u8_bounds (hw z (List.mem_of_mem_take hz'))⟩
/-- The world behind a literal of no elements. -/
theorem nil_world (w : World) : ∃ L, w.alloc (.cells #[] 5) = L ∧ Below w.heap.size w L ∧ L.ownsRow w.heap.size 5 1 (.slice (some ⟨w.heap.size, 0, none⟩) 0 0) 0 [] ∧ L.heap.size = w.heap.size + 1 :=
  ⟨_, rfl, below_lit w _, own_lit w _, by simp⟩
theorem own_of_nil {w : World} {base : Nat} {v : Value} {n : Nat} {l : List Int} (h : w.ownsRow base 5 1 v (0 + n) ([] ++ C8 l)) (hl : l.length = n) (hr : ∀ x ∈ l, 0 ≤ x ∧ x ≤ 255) : Own w base v l := by
  subst hl
  rw [Nat.zero_add, List.nil_append] at h
  exact ⟨h, hr⟩
theorem glueF {w : World} {base : Nat} {v : Value} {a r : List Int} {m : Nat} (h : w.ownsRow base 5 1 v (a.length + m) (C8 a ++ C8 r)) (hm : r.length = m) (ha : ∀ x ∈ a, 0 ≤ x ∧ x ≤ 255) (hr : ∀ x ∈ r, 0 ≤ x ∧ x ≤ 255) : Own w base v (a ++ r) := by
  subst hm
  exact ⟨by rw [List.length_append, C8_app]; exact h, ran_app ha hr⟩
/-- An operation whose guard says yes goes as one without. -/
theorem wpList_guard {P : Program} {ops : Array Oper} {Q : Exit → Act → World → Prop} {a : Act} {w : World} {rest : List Oper} {o : Oper} (hw : Region.wanted o (yielded ops a.tmps) = true)
    (h : wpList P ops Q ({ o with guard := none } :: rest) a w) : wpList P ops Q (o :: rest) a w := by
  unfold wpList at h ⊢
  rw [if_pos hw]
  rw [if_pos (show Region.wanted { o with guard := none } (yielded ops a.tmps) = true from rfl)] at h
  cases o
  exact h
theorem own_set {w : World} {base g m c k : Nat} {l : List Int} {y : Int} (h : Own w base (.slice (some ⟨g, 0, none⟩) m c) l) (hk : k < l.length) (h0 : 0 ≤ y) (h1 : y ≤ 255) :
    Own (w.setCell ⟨g, k, none⟩ (.int .u8 y)) base (.slice (some ⟨g, 0, none⟩) m c) (l.set k y) := by
  obtain ⟨⟨hl, h2⟩, hr⟩ := h
  rcases h2 with ⟨hv, _⟩ | ⟨g', cap, cur, hv, hb, hg, hnc, hcm, hcs, htake⟩
  · cases hv
  · simp only [Value.slice.injEq, Option.some.injEq, Addr.mk.injEq, and_true, true_and] at hv
    obtain ⟨rfl, rfl, rfl⟩ := hv
    refine ⟨⟨by rw [C8_len, List.length_set]; omega, .inr ⟨g, c, cur.setIfInBounds k (.int .u8 y), by rw [List.length_set], hb, ?_, by rw [List.length_set]; exact hnc, hcm, by simpa using hcs, ?_⟩⟩, fun x hx => ?_⟩
    · simp [World.setCell, Array.getElem?_modify, hg]
    · rw [List.length_set, Array.toList_setIfInBounds, List.take_set, htake]
      simp only [C8, List.map_set]
    · rcases List.mem_or_eq_of_mem_set hx with h | h
      · exact hr x h
      · subst h; exact ⟨h0, h1⟩
theorem own_cellk {w : World} {base g m c k : Nat} {l : List Int} (h : Own w base (.slice (some ⟨g, 0, none⟩) m c) l) (hk : k < l.length) : w.cell? ⟨g, k, none⟩ = some (.int .u8 l[k]) ∧ w.frozen? ⟨g, k, none⟩ = false := by
  obtain ⟨⟨hl, h2⟩, hr⟩ := h
  rcases h2 with ⟨hv, _⟩ | ⟨g', cap, cur, hv, hb, hg, hnc, hcm, hcs, htake⟩
  · cases hv
  · simp only [Value.slice.injEq, Option.some.injEq, Addr.mk.injEq, and_true, true_and] at hv
    obtain ⟨rfl, rfl, rfl⟩ := hv
    refine ⟨?_, by simp [World.frozen?, hg]⟩
    have h3 : cur.toList[k]? = some (.int .u8 l[k]) := by
      have h4 := C8_at hk
      rw [← htake, List.getElem?_take_of_lt (by omega)] at h4
      exact h4
    simp only [World.cell?, hg]
    simpa using h3
theorem zeros_cells (n : Nat) : (madeCells (Value.int .u8 0).cells (n * 1)).toList = C8 (List.replicate n 0) := by
  rw [Nat.mul_one]
  apply List.ext_getElem
  · simp [madeCells, C8]
  · intro i h1 h2
    simp [madeCells, C8, Value.cells, Nat.mod_one]
theorem zeros_ran (n : Nat) : ∀ x ∈ List.replicate n (0 : Int), 0 ≤ x ∧ x ≤ 255 := by
  intro x hx
  obtain ⟨_, rfl⟩ := List.mem_replicate.1 hx
  omega
/-- A row of zeros that was just made. -/
theorem own_zeros {w : World} {base g n : Nat} (h : w.ownsRow base 5 1 (.slice (some ⟨g, 0, none⟩) n n) n (madeCells (Value.int .u8 0).cells (n * 1)).toList) : Own w base (.slice (some ⟨g, 0, none⟩) n n) (List.replicate n 0) := by
  rw [zeros_cells] at h
  exact ⟨by rw [List.length_replicate]; exact h, zeros_ran n⟩
end Go.Proofs.Ytinnmnhaeejfdaa
