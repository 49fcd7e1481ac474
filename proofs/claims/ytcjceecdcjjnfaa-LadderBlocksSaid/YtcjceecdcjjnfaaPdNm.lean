/- Walks: whether a text is a name, in the program and in the reference. -/
import Derived.Test.YtcjceecdcjjnfaaPdM
import Derived.Test.YtcjceecdcjjnfaaRows
import Derived.Test.YtcjceecdcjjnfaaProg
import Derived.Laws.StructEq
import Derived.Laws.OwnMore
import Derived.Deep.AppendLies
import Derived.Deep.Draws
import Derived.WalkKit
import Derived.Deep.QuietTactic
import Derived.BigQuiet
import Derived.Below
import Derived.Lib.Hide
import Derived.Laws.RangeString
import Derived.Laws.RangeAny
namespace Go.Proofs.Ytcjceecdcjjnfaa.Pd
open Go.RowKit

theorem ret_i64 {a b : Int} (h : a = b) : Ending.returned (.int .i64 a) = .returned (.int .i64 b) := by rw [h]
theorem ret_bool {a b : Bool} (h : a = b) : Ending.returned (.bool a) = .returned (.bool b) := by rw [h]
theorem below_drewN {B : Nat} {a w : World} (h : Below B a w) (n : Nat) : Below B a (w.drewN n) := ⟨h.os, h.tape, h.output, h.size, h.block⟩

theorem nm_none {s : ByteArray} (h : s.size = 0 ∨ 24 < s.size) : nmOk s = false := by
  unfold nmOk
  rw [decide_eq_false (by omega)]; rfl
theorem nm_split {s : ByteArray} (h : 0 < s.size) : s.data.toList = s[0] :: s.data.toList.tail := by
  obtain ⟨⟨l⟩⟩ := s
  cases l with
  | nil => exact absurd h (by decide)
  | cons c l => rfl
theorem nm_head {s : ByteArray} (h : 0 < s.size) (hl : nmL s[0] = false) : nmOk s = false := by
  unfold nmOk
  have := nm_split h
  rw [this]
  simp [hl]
theorem nm_not {s : ByteArray} {k : Nat} (h : k < s.size) (hl : nmC s[k] = false) : nmOk s = false := by
  unfold nmOk
  have : s.data.toList.all nmC = false := by
    rw [List.all_eq_false]
    exact ⟨s[k], by rw [show s[k] = s.data.toList[k]'(by simpa using h) from rfl]; exact List.getElem_mem _, by simp [hl]⟩
  rw [this, Bool.and_false]
theorem nm_yes {s : ByteArray} (h0 : 0 < s.size) (h1 : s.size ≤ 24) (hl : nmL s[0] = true) (h : ∀ k (hk : k < s.size), nmC s[k] = true) : nmOk s = true := by
  unfold nmOk
  have h2 := nm_split h0
  have h3 : s.data.toList.all nmC = true := by
    rw [List.all_eq_true]
    intro x hx
    obtain ⟨k, hk, rfl⟩ := List.mem_iff_getElem.1 hx
    exact h k (by simpa using hk)
  rw [h3, Bool.and_true, Bool.and_eq_true]
  refine ⟨decide_eq_true (by omega), ?_⟩
  rw [h2]; exact hl
theorem empty_not {s : ByteArray} (h : s.size ≠ 0) : s.toList.isEmpty = false := by
  obtain ⟨⟨l⟩⟩ := s
  cases l with
  | nil => exact absurd rfl h
  | cons c l => simp
theorem wrap32_u8 (c : UInt8) : wrap32 (c.toNat : Int) = (c.toNat : Int) := by
  have := c.toNat_lt
  unfold wrap32
  omega
theorem below_iter (w : World) (s : ByteArray) (k : Nat) : Below w.heap.size w (w.iter s k) := (Below.refl _ w).alloc (Nat.le_refl _) _
end Go.Proofs.Ytcjceecdcjjnfaa.Pd
