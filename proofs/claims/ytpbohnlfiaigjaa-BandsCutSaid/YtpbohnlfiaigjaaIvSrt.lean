/- The sort of edges, by the library's contract. -/
import Derived.Test.YtpbohnlfiaigjaaShelf
import Derived.Test.YtpbohnlfiaigjaaIvO
import Derived.Test.YtpbohnlfiaigjaaIvScanM
import Derived.Shelf.SlSortCmp.WholeK
namespace Go.Proofs.Ytpbohnlfiaigjaa
open Go.RowKit Go.Lib Go.Sort Go.Shelf

def encE (e : Eg) : List Value := [.int .i64 e.1, .int .i64 e.2.1, .int .i64 e.2.2]
/-- The cells of a list of edges. -/
def el (E : List Eg) : List Value := E.flatMap encE
theorem el_cons (e : Eg) (E : List Eg) : el (e :: E) = .int .i64 e.1 :: .int .i64 e.2.1 :: .int .i64 e.2.2 :: el E := by simp [el, encE]
theorem el_append (E F : List Eg) : el (E ++ F) = el E ++ el F := by simp [el]
theorem el_length (E : List Eg) : (el E).length = E.length * 3 := by
  induction E with
  | nil => rfl
  | cons e E ih => rw [el_cons]; simp [ih]; omega
theorem el_at : ∀ (E : List Eg) (k r : Nat), k < E.length → r < 3 → (el E)[k * 3 + r]? = (encE (E.getD k (0, 0, 0)))[r]? := by
  intro E
  induction E with
  | nil => intro k r hk; exact absurd hk (Nat.not_lt_zero k)
  | cons e E ih =>
    intro k r hk hr
    rw [el_cons]
    match k, r, hr with
    | 0, 0, _ => rfl
    | 0, 1, _ => rfl
    | 0, 2, _ => rfl
    | k + 1, r, hr =>
      have := ih k r (by simpa using hk) hr
      rw [show (k + 1) * 3 + r = k * 3 + r + 1 + 1 + 1 by omega, List.getElem?_cons_succ, List.getElem?_cons_succ, List.getElem?_cons_succ, this]
      rfl
theorem encE_get (e : Eg) (r : Nat) (hr : r < 3) : (encE e)[r]? = some (encE e)[r]! := by
  match r, hr with
  | 0, _ => rfl
  | 1, _ => rfl
  | 2, _ => rfl
/-- A slice that reads as a list of edges. -/
def ER (w : World) (A : Option Addr) (E : List Eg) : Prop :=
  ∀ k, k < E.length → ∃ b, A = some ⟨b, 0, none⟩ ∧ b < w.heap.size ∧ w.cell? ⟨b, k * 3, none⟩ = some (.int .i64 (E.getD k (0, 0, 0)).1) ∧ w.cell? ⟨b, k * 3 + 1, none⟩ = some (.int .i64 (E.getD k (0, 0, 0)).2.1) ∧ w.cell? ⟨b, k * 3 + 2, none⟩ = some (.int .i64 (E.getD k (0, 0, 0)).2.2)
theorem ER.below {w w' : World} {A : Option Addr} {E : List Eg} (h : ER w A E) (hb : Below w.heap.size w w') : ER w' A E := fun k hk => by
  obtain ⟨b, e, h1, h2, h3, h4⟩ := h k hk
  exact ⟨b, e, Nat.lt_of_lt_of_le h1 hb.size, (hb.cell (p := ⟨b, k * 3, none⟩) h1).trans h2, (hb.cell (p := ⟨b, k * 3 + 1, none⟩) h1).trans h3, (hb.cell (p := ⟨b, k * 3 + 2, none⟩) h1).trans h4⟩
theorem below_putRow {α : Type} [Inhabited α] {B : Nat} {a w : World} (h : Below B a w) (enc : α → Value) (g off : Nat) (d : Array α) (hg : B ≤ g) : Below B a (putRow enc w g off d) :=
  ⟨h.os, h.tape, h.output, by simpa using h.size, fun k hk => by
    rw [← h.block k hk]
    unfold putRow mapBlock
    simp [Array.getElem?_modify, show g ≠ k by omega]⟩
theorem below_ahead {B : Nat} {a w : World} (h : Go.RowKit.Below B a w) (n : Nat) : Go.RowKit.Below B a (Sort.ahead w n) := ⟨h.os, h.tape, h.output, h.size, h.block⟩
theorem below_grow {B : Nat} {a w : World} (h : Below B a w) (hs : B ≤ w.heap.size) (os : Array Obj) : Below B a (grow w os) :=
  ⟨h.os, h.tape, h.output, by have := h.size; simp [grow]; omega, fun k hk => by
    rw [← h.block k hk]
    simp [grow, Array.getElem?_append, show k < w.heap.size by omega]⟩

theorem ltE (x y : Eg) : ltOf (fun x y : Eg => Lib.compareInt x.1 y.1) x y = decide (x.1 < y.1) := by
  unfold ltOf Lib.compareInt
  by_cases h1 : x.1 < y.1
  · simp [h1]
  · by_cases h2 : y.1 < x.1 <;> simp [h1, h2]
theorem swoE : SWO (ltOf fun x y : Eg => Lib.compareInt x.1 y.1) where
  irrefl x := by rw [ltE]; simp
  trans x y z h1 h2 := by rw [ltE] at *; simp at *; omega
  ntrans x y z h1 h2 := by rw [ltE] at *; simp at *; omega
theorem perm_in {d d' : Array Eg} (h : PermIn 0 d.size d d') : d'.toList.Perm d.toList := by
  have h3 := h.2.2
  have e1 : d.extract 0 d.size = d := by simp
  have e2 : d'.extract 0 d.size = d' := by rw [← h.1]; simp
  rwa [e1, e2] at h3
theorem sorted_in {d d' : Array Eg} (hs : d'.size = d.size) (h : SortedIn (ltOf fun x y : Eg => Lib.compareInt x.1 y.1) 0 d.size d') : srt d'.toList := by
  unfold srt
  rw [List.pairwise_iff_getElem]
  intro i j hi hj hij
  have := h i j (Nat.zero_le _) hij (by rw [← hs]; simpa using hj)
  rw [ltE] at this
  have h2 := of_decide_eq_false this
  rw [getElem!_pos d' j (by simpa using hj), getElem!_pos d' i (by simpa using hi)] at h2
  simp only [Array.getElem_toList]
  omega
theorem er_of {w : World} {g : Nat} {d : Array Eg} (h : HoldsK encE 3 w g 0 d) (hg : g < w.heap.size) : ER w (some ⟨g, 0, none⟩) d.toList := by
  intro k hk
  rw [Array.length_toList] at hk
  have e : d.toList.getD k (0, 0, 0) = d[k]! := by
    rw [getElem!_pos d k hk]
    simp [List.getD, List.getElem?_eq_getElem (show k < d.toList.length by simpa using hk)]
  have hc : ∀ r, r < 3 → w.cell? ⟨g, k * 3 + r, none⟩ = some (encE d[k]!)[r]! := by
    intro r hr
    have h1 := (h (k * 3 + r) (by rw [size_flatK]; omega)).1
    rw [get_flatK _ _ _ _ (by omega), Nat.zero_add, show (k * 3 + r) / 3 = k by omega, show (k * 3 + r) % 3 = r by omega] at h1
    exact h1
  refine ⟨g, rfl, hg, ?_, ?_, ?_⟩
  · rw [e]; exact hc 0 (by omega)
  · rw [e]; exact hc 1 (by omega)
  · rw [e]; exact hc 2 (by omega)
end Go.Proofs.Ytpbohnlfiaigjaa
