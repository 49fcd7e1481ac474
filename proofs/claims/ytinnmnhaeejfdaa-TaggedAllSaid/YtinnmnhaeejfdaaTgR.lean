/- Records, and which of them are valid. -/
import Derived.Test.YtinnmnhaeejfdaaRows
import Derived.Test.YtinnmnhaeejfdaaTgSml
import Derived.Test.YtinnmnhaeejfdaaDigPack2
namespace Go.Proofs.Ytinnmnhaeejfdaa
open Go.RowKit

structure Rc where
  s0 : Int
  s1 : Int
  s2 : Int
  sa : ByteArray
  sb : ByteArray
  s5 : Int
  s6 : Int
  s7 : Int
  s8 : Int
  b9 : Bool
  s10 : Int
  b11 : Bool
def Rc.cells (r : Rc) : Array Value := #[.int .i64 r.s0, .int .i64 r.s1, .int .i64 r.s2, .string r.sa, .string r.sb, .int .i64 r.s5, .int .i64 r.s6, .int .i64 r.s7, .int .i64 r.s8, .bool r.b9, .int .i64 r.s10, .bool r.b11]
def inb (n a b : Int) : Bool := decide (a ≤ n) && decide (n ≤ b)
/-- Whether usages of a kind can go to b. -/
def isT (b : ByteArray) (k : Int) : Bool := if b.size = 0 then decide (k = 3) || decide (k = 4) else numB b.data.toList
/-- The error of a record, out of its tests. -/
def chkV (v0 v1 v2 va vt v5 v6 k1 u1 q1 v7 v8 z8 z7 b9 v10 b11 z10 : Bool) : Int :=
  bif !v0 || !v1 then 6 else bif !v2 then 7 else bif !va || !vt then 12 else bif !v5 then 15 else bif !v6 || (k1 && u1) then 6 else bif k1 && q1 then 15
  else bif !v7 || !v8 then 6 else bif (z8 != z7) || (b9 && z8) then 8 else bif !v10 then 6 else bif b11 && z10 then 8 else 0
/-- The error of a record. -/
def chkR (r : Rc) : Int :=
  chkV (inb r.s0 1 99) (inb r.s1 1 999999999) (inb r.s2 1 4) (numB r.sa.data.toList) (isT r.sb r.s2) (inb r.s5 0 12622780799) (inb r.s6 0 1099511627776) (decide (r.s2 = 1)) (decide (604800 < r.s6)) (decide (12622780800 < r.s5 + r.s6))
    (inb r.s7 0 999999999) (inb r.s8 0 99) (decide (r.s8 = 0)) (decide (r.s7 = 0)) r.b9 (inb r.s10 0 999) r.b11 (decide (r.s10 = 0))
theorem within_is {n a b : Int} {v : Bool} (h : inb n a b = v) (w : World) : Calls Try.prog 37 #[.int .i64 n, .int .i64 a, .int .i64 b] w fun e w' => e = .returned (.bool v) ∧ w = w' := by
  subst h; exact within_any n a b w
def flg (r : Rc) : Nat := (if r.b9 then 1 else 0) + (if r.b11 then 2 else 0)
theorem flags_any (r : Rc) (w : World) : Calls Try.prog 42 #[.agg r.cells] w fun e w' => e = .returned (.int .i64 (flg r)) ∧ Below w.heap.size w w' := by
  obtain ⟨s0, s1, s2, sa, sb, s5, s6, s7, s8, b9, s10, b11⟩ := r
  cases b9
  · cases b11
    · go_enter Try.func42, Try.ntmps42
      simp only [Rc.cells]
      go_wp2
      go_ret
      exact ⟨rfl, (Below.refl _ _).alloc (Nat.le_refl _) _⟩
    · go_enter Try.func42, Try.ntmps42
      simp only [Rc.cells]
      go_wp2
      go_ret
      exact ⟨rfl, (Below.refl _ _).alloc (Nat.le_refl _) _⟩
  · cases b11
    · go_enter Try.func42, Try.ntmps42
      simp only [Rc.cells]
      go_wp2
      go_ret
      exact ⟨rfl, (Below.refl _ _).alloc (Nat.le_refl _) _⟩
    · go_enter Try.func42, Try.ntmps42
      simp only [Rc.cells]
      go_wp2
      go_ret
      exact ⟨rfl, (Below.refl _ _).alloc (Nat.le_refl _) _⟩
theorem empty_not {s : ByteArray} (h : s.size ≠ 0) : s.toList.isEmpty = false := by
  obtain ⟨⟨l⟩⟩ := s
  cases l with
  | nil => exact absurd rfl h
  | cons c l => simp
theorem isTarget_any (b : ByteArray) (k : Int) (hb : b.size ≤ maxLen) (v : Bool) (hv : isT b k = v) (w : World) : Calls Try.prog 39 #[.string b, .int .i64 k] w fun e w' => e = .returned (.bool v) ∧ w = w' := by
  by_cases h0 : b.size = 0
  · obtain rfl : b = ByteArray.empty := by
      obtain ⟨d⟩ := b
      have : d = #[] := Array.eq_empty_of_size_eq_zero h0
      rw [this]; rfl
    clear hb h0
    by_cases h3 : k = 3
    · subst h3
      obtain rfl : v = true := by rw [← hv]; rfl
      go_enter Try.func39, Try.ntmps39
      go_wp2
      go_ret
      exact ⟨rfl, rfl⟩
    · by_cases h4 : k = 4
      · subst h4
        obtain rfl : v = true := by rw [← hv]; rfl
        go_enter Try.func39, Try.ntmps39
        go_wp2
        go_ret
        exact ⟨rfl, rfl⟩
      · obtain rfl : v = false := by rw [← hv]; simp [isT, h3, h4]
        go_enter Try.func39, Try.ntmps39
        go_wp2
        go_ret
        exact ⟨by simp [h3, h4], rfl⟩
  · have hn : numB b.data.toList = v := by rw [← hv, isT, if_neg h0]
    have hne : b.toList.isEmpty = false := empty_not h0
    have HV := Lib.hid (valid_any b w hb)
    have HN := Lib.hid hn
    clear hv hn
    go_enter Try.func39, Try.ntmps39
    go_wp2_with (go_at_call 38; refine HV.out.mono ?_; rintro e w1 ⟨rfl, rfl⟩)
    go_ret
    exact ⟨by rw [← HN.out]; rfl, rfl⟩
end Go.Proofs.Ytinnmnhaeejfdaa
