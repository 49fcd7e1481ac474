/- Walks: bytes that are joined, in the program and in the reference. -/
import Derived.Test.YtobkafkknbdacaaDoorRows
import Derived.Test.YtobkafkknbdacaaDoorCdV
import Derived.Laws.AppendOwnNone
import Derived.Lib.AppendStr
namespace Go.Proofs.YtobkafkknbdacaaDoor
open Go.RowKit

/-- A slice of bytes that can be read. -/
structure Byt (w : World) (A : Option Addr) (n c : Nat) (l : List Int) : Prop where
  has : Has w A n c (C8 l)
  cap : n ≤ c
  max : c ≤ maxLen
  ran : ∀ x ∈ l, 0 ≤ x ∧ x ≤ 255
theorem Byt.len {w : World} {A : Option Addr} {n c : Nat} {l : List Int} (h : Byt w A n c l) : l.length = n := by
  have := h.has.1; rwa [C8_len] at this
theorem Byt.below {w w' : World} {A : Option Addr} {n c : Nat} {l : List Int} (h : Byt w A n c l) (hb : Below w.heap.size w w') : Byt w' A n c l := ⟨h.has.below hb, h.cap, h.max, h.ran⟩
theorem Byt.nil0 {w : World} {A : Option Addr} {n c : Nat} {l : List Int} (h : Byt w A n c l) : A = none → n = 0 ∧ c = 0 := fun h0 => ⟨(h.has.nil h0).1, (h.has.nil h0).2.1⟩
theorem byt_nil (w : World) : Byt w none 0 0 [] := ⟨⟨rfl, by intro u hu; simp [C8] at hu, .inl ⟨rfl, rfl, rfl⟩⟩, Nat.le_refl _, by unfold maxLen; omega, by intro x hx; cases hx⟩
/-- The call's own bytes. -/
def Own (w : World) (base : Nat) (v : Value) (l : List Int) : Prop := w.ownsRow base 5 1 v l.length (C8 l) ∧ ∀ x ∈ l, 0 ≤ x ∧ x ≤ 255
/-- What a call gives: bytes of its own; below 'base' nothing has turned. -/
def Gives (w : World) (base : Nat) (l : List Int) (e : Ending) (w' : World) : Prop := ∃ v, e = .returned v ∧ Own w' base v l ∧ Below base w w'
theorem Own.byt {w : World} {base : Nat} {v : Value} {l : List Int} (h : Own w base v l) : ∃ A c, v = .slice A l.length c ∧ Byt w A l.length c l := by
  obtain ⟨A, c, rfl, _, _⟩ := own_form h.1
  obtain ⟨_, hh⟩ := has_own h.1 (C8_one l)
  have := own_cap h.1
  exact ⟨A, c, rfl, hh, this.1, this.2, h.2⟩
theorem Own.bytm {w : World} {base : Nat} {v : Value} {l : List Int} (h : Own w base v l) : ∃ A m c, v = .slice A m c ∧ Hid (m = l.length) ∧ Byt w A m c l := by
  obtain ⟨A, c, h1, h2⟩ := h.byt
  exact ⟨A, _, c, h1, rfl, h2⟩
theorem own_none (w : World) (base : Nat) : Own w base (.slice none 0 0) [] := ⟨World.ownsRow_nil _ _ _ _, by intro x hx; cases hx⟩
theorem drop_at {l : List Int} {k : Nat} {x : Int} (h : l[k]? = some x) : l.drop k = x :: l.drop (k + 1) := by
  obtain ⟨hk, rfl⟩ := List.getElem?_eq_some_iff.1 h
  exact List.drop_eq_getElem_cons hk
theorem Own.mono {w : World} {b b' : Nat} {v : Value} {l : List Int} (h : Own w b v l) (hb : b' ≤ b) : Own w b' v l := ⟨own_mono h.1 hb, h.2⟩
theorem numE_byte (z : Int) : ∀ x ∈ numE z, 0 ≤ x ∧ x ≤ 255 := grp_byte _
theorem ran_app {a b : List Int} (ha : ∀ x ∈ a, 0 ≤ x ∧ x ≤ 255) (hb : ∀ x ∈ b, 0 ≤ x ∧ x ≤ 255) : ∀ x ∈ a ++ b, 0 ≤ x ∧ x ≤ 255 := by
  intro x hx
  rcases List.mem_append.1 hx with h | h
  · exact ha x h
  · exact hb x h

theorem appNum_own {v : Value} {l : List Int} {base : Nat} {w : World} (z : Int) (hv : Own w base v l) (hbase : base ≤ w.heap.size) (hn : l.length ≤ 1000000000) (hz : -9223372036854775808 ≤ z ∧ z ≤ 9223372036854775807) :
    Calls Tryd.prog 38 #[v, .int .i64 z] w (Gives w base (l ++ numE z)) :=
  (appNum_any v l.length (C8 l) z base w (apt_own hv.1) hbase hn hz).mono fun e w' ⟨v', h1, h2, h3⟩ => ⟨v', h1, ⟨by rw [List.length_append, C8_app]; exact h2, ran_app hv.2 (numE_byte z)⟩, h3⟩
theorem appNum_byt {A : Option Addr} {n : Nat} {l : List Int} {w : World} (z : Int) (hA : Byt w A n n l) (hn : n ≤ 1000000000) (hz : -9223372036854775808 ≤ z ∧ z ≤ 9223372036854775807) :
    Calls Tryd.prog 38 #[.slice A n n, .int .i64 z] w (Gives w w.heap.size (l ++ numE z)) :=
  (appNum_any _ n (C8 l) z w.heap.size w (apt_has hA.has) (Nat.le_refl _) hn hz).mono fun e w' ⟨v', h1, h2, h3⟩ => ⟨v', h1, ⟨by rw [List.length_append, C8_app, hA.len]; exact h2, ran_app hA.ran (numE_byte z)⟩, h3⟩
theorem Byt.full {w : World} {A : Option Addr} {n c : Nat} {l : List Int} (h : Byt w A n c l) : Byt w A n n l := by
  refine ⟨?_, Nat.le_refl _, Nat.le_trans h.cap h.max, h.ran⟩
  obtain ⟨h1, h2, h3⟩ := h.has
  refine ⟨h1, h2, ?_⟩
  rcases h3 with ⟨a, b, c⟩ | h3
  · exact .inl ⟨a, b, b⟩
  · exact .inr h3

set_option maxHeartbeats 1000000 in
theorem putNum_any {A : Option Addr} {n c : Nat} {l : List Int} {w : World} (z : Int) (hA : Byt w A n c l) (hn : n ≤ 1000000000) (hz : -9223372036854775808 ≤ z ∧ z ≤ 9223372036854775807) :
    Calls Tryd.prog 29 #[.slice A n c, .int .i64 z] w (Gives w w.heap.size (l ++ numE z)) := by
  have HF := Lib.hid (full_any A n c w hA.nil0 hA.cap hA.max)
  have HN := Lib.hid (appNum_byt z hA.full hn hz)
  clear hA hn hz
  go_enter Tryd.func29, Tryd.ntmps29
  go_wp2_with (first
    | (go_at_call 39; refine HF.out.mono ?_; rintro e w1 ⟨rfl, rfl⟩)
    | (go_at_call 38; refine HN.out.mono ?_; rintro e w1 ⟨v1, rfl, ho1, hb1⟩))
  go_ret
  exact ⟨_, rfl, ho1, hb1⟩

end Go.Proofs.YtobkafkknbdacaaDoor
