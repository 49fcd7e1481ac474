/- Records, and which of them are valid. -/
import Derived.Test.YtokdfdinnaghmaaDoorRows
import Derived.Test.YtokdfdinnaghmaaDoorLawKit
import Derived.Lib.Hide
import Derived.Test.YtokdfdinnaghmaaDoorDigV
import Derived.Test.YtokdfdinnaghmaaDoorDigPackM
import Derived.Test.YtokdfdinnaghmaaDoorRcS
namespace Go.Proofs.YtokdfdinnaghmaaDoor
open Go.RowKit
theorem within_any (n a b : Int) (w : World) : Calls Tryd.prog 30 #[.int .i64 n, .int .i64 a, .int .i64 b] w fun e w' => e = .returned (.bool (decide (a ≤ n) && decide (n ≤ b))) ∧ w = w' := by
  go_enter Tryd.func30, Tryd.ntmps30
  by_cases h : a ≤ n
  · by_cases h2 : n ≤ b
    · go_wp2
      go_ret
      exact ⟨by simp [h, h2], rfl⟩
    · go_wp2
      go_ret
      exact ⟨by simp [h2], rfl⟩
  · go_wp2
    go_ret
    exact ⟨by rw [decide_eq_false (by omega : ¬ a ≤ n), Bool.false_and]; rfl, rfl⟩
def inb (n a b : Int) : Bool := decide (a ≤ n) && decide (n ≤ b)
/-- Whether usages of a kind can go to b. -/
def isT (b : ByteArray) (k : Int) : Bool := if b.size = 0 then decide (k = 3) || decide (k = 4) else numB b.data.toList
/-- The error of a record, out of its tests. -/
def chkV (v0 v1 v2 va vt v5 v6 k1 u1 q1 v7 v8 z8 z7 b9 v10 b11 z10 : Bool) : Int :=
  bif !v0 || !v1 then 6 else bif !v2 then 7 else bif !va || !vt then 12 else bif !v5 then 15 else bif !v6 || (k1 && u1) then 6 else bif k1 && q1 then 15
  else bif !v7 || !v8 then 6 else bif (z8 != z7) || (b9 && z8) then 8 else bif !v10 then 6 else bif b11 && z10 then 8 else 0
/-- The error of a record. -/
def chkR (r : Rc) : Int :=
  chkV (inb r.s0 1 99) (inb r.s1 1 999999999) (inb r.s2 1 4) (numB r.sa.data.toList) (isT r.sb r.s2) (inb r.s5 0 12622780799) (inb r.s6 0 1099511627776) (decide (r.s2 = 1)) (decide (604800 < r.s6)) (decide (12622780800 < r.s5 + r.s6))
    (inb r.s7 0 999999999) (inb r.s8 0 99) (decide (r.s8 = 0)) (decide (r.s7 = 0)) r.b9 (inb r.s10 0 999) r.b11 (decide (r.s10 = 0))
theorem within_is {n a b : Int} {v : Bool} (h : inb n a b = v) (w : World) : Calls Tryd.prog 30 #[.int .i64 n, .int .i64 a, .int .i64 b] w fun e w' => e = .returned (.bool v) ∧ w = w' := by
  subst h; exact within_any n a b w
theorem empty_not {s : ByteArray} (h : s.size ≠ 0) : s.toList.isEmpty = false := by
  obtain ⟨⟨l⟩⟩ := s
  cases l with
  | nil => exact absurd rfl h
  | cons c l => simp
theorem isTarget_any (b : ByteArray) (k : Int) (hb : b.size ≤ maxLen) (v : Bool) (hv : isT b k = v) (w : World) : Calls Tryd.prog 32 #[.string b, .int .i64 k] w fun e w' => e = .returned (.bool v) ∧ w = w' := by
  by_cases h0 : b.size = 0
  · obtain rfl : b = ByteArray.empty := by
      obtain ⟨d⟩ := b
      have : d = #[] := Array.eq_empty_of_size_eq_zero h0
      rw [this]; rfl
    clear hb h0
    by_cases h3 : k = 3
    · subst h3
      obtain rfl : v = true := by rw [← hv]; rfl
      go_enter Tryd.func32, Tryd.ntmps32
      go_wp2
      go_ret
      exact ⟨rfl, rfl⟩
    · by_cases h4 : k = 4
      · subst h4
        obtain rfl : v = true := by rw [← hv]; rfl
        go_enter Tryd.func32, Tryd.ntmps32
        go_wp2
        go_ret
        exact ⟨rfl, rfl⟩
      · obtain rfl : v = false := by rw [← hv]; simp [isT, h3, h4]
        go_enter Tryd.func32, Tryd.ntmps32
        go_wp2
        go_ret
        exact ⟨by simp [h3, h4], rfl⟩
  · have hn : numB b.data.toList = v := by rw [← hv, isT, if_neg h0]
    have hne : b.toList.isEmpty = false := empty_not h0
    have HV := Lib.hid (valid_any b w hb)
    have HN := Lib.hid hn
    clear hv hn
    go_enter Tryd.func32, Tryd.ntmps32
    go_wp2_with (go_at_call 31; refine HV.out.mono ?_; rintro e w1 ⟨rfl, rfl⟩)
    go_ret
    exact ⟨by rw [← HN.out]; rfl, rfl⟩
/-- Its numbers are not negative, and small; its texts are short. -/
structure Rc.Small (r : Rc) : Prop where
  n0 : 0 ≤ r.s0 ∧ r.s0 ≤ 1099511627776
  n1 : 0 ≤ r.s1 ∧ r.s1 ≤ 1099511627776
  n2 : 0 ≤ r.s2 ∧ r.s2 ≤ 1099511627776
  n5 : 0 ≤ r.s5 ∧ r.s5 ≤ 1099511627776
  n6 : 0 ≤ r.s6 ∧ r.s6 ≤ 1099511627776
  n7 : 0 ≤ r.s7 ∧ r.s7 ≤ 1099511627776
  n8 : 0 ≤ r.s8 ∧ r.s8 ≤ 1099511627776
  n10 : 0 ≤ r.s10 ∧ r.s10 ≤ 1099511627776
  la : r.sa.size ≤ 15
  lb : r.sb.size ≤ 15
theorem cz {c : Bool} {a b : Int} (ha : a ≠ 0) (h : (bif c then a else b) = 0) : c = false ∧ b = 0 := by cases c <;> simp_all
theorem inb_of {n a b : Int} (h : inb n a b = true) : a ≤ n ∧ n ≤ b := by simpa [inb] using h
theorem chk_small {r : Rc} (h : chkR r = 0) : r.Small ∧ numB r.sa.data.toList = true ∧ isT r.sb r.s2 = true := by
  unfold chkR chkV at h
  obtain ⟨c0, h⟩ := cz (by decide) h
  obtain ⟨c1, h⟩ := cz (by decide) h
  obtain ⟨c2, h⟩ := cz (by decide) h
  obtain ⟨c3, h⟩ := cz (by decide) h
  obtain ⟨c4, h⟩ := cz (by decide) h
  obtain ⟨-, h⟩ := cz (by decide) h
  obtain ⟨c5, h⟩ := cz (by decide) h
  obtain ⟨-, h⟩ := cz (by decide) h
  obtain ⟨c6, h⟩ := cz (by decide) h
  simp only [Bool.or_eq_false_iff, Bool.not_eq_false'] at c0 c1 c2 c3 c4 c5 c6
  have h0 := inb_of c0.1; have h1 := inb_of c0.2; have h2 := inb_of c1; have h5 := inb_of c3; have h6 := inb_of c4.1; have h7 := inb_of c5.1; have h8 := inb_of c5.2; have h10 := inb_of c6
  refine ⟨⟨by omega, by omega, by omega, by omega, by omega, by omega, by omega, by omega, (num_len c2.1).2, ?_⟩, c2.1, c2.2⟩
  have ht := c2.2
  unfold isT at ht
  split at ht
  · omega
  · exact (num_len ht).2
theorem rec_world (w : World) (r : Rc) : ∃ L, w.alloc (.cells r.cells 23) = L ∧ Below w.heap.size w L ∧ RcB L w.heap.size r ∧ L.heap.size = w.heap.size + 1 :=
  ⟨_, rfl, (Below.refl _ w).alloc (Nat.le_refl _) _, heap_alloc_new w _, by simp⟩
theorem heap_lt {w : World} {g : Nat} {o : Obj} (h : w.heap[g]? = some o) : g < w.heap.size := (Array.getElem?_eq_some_iff.1 h).1
end Go.Proofs.YtokdfdinnaghmaaDoor
