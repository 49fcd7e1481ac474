/- Walks: a text is cut at its point; a text that is none of an integer. -/
import Derived.Test.YtopngdjhnljmfaaDoorAmtPar1
import Derived.Deep.QuietTactic
import Derived.BigQuiet
import Derived.WalkSmall
namespace Go.Proofs.YtopngdjhnljmfaaDoor
open Go.RowKit

theorem cut_hit {l : List UInt8} {c : UInt8} {i : Nat} (h : Lib.indexByte l c = (i : Int)) : cutA l c = l.take i ∧ cutB l c = l.drop (i + 1) ∧ cutF l c = true := by
  have e : 0 ≤ (i : Int) := by omega
  simp [cutA, cutB, cutF, h, e]
theorem cut_miss {l : List UInt8} {c : UInt8} (h : Lib.indexByte l c = -1) : cutA l c = l ∧ cutB l c = [] ∧ cutF l c = false := by
  simp [cutA, cutB, cutF, h]

set_option maxHeartbeats 1000000 in
theorem cutIn_any (s : ByteArray) (c : UInt8) (w : World) (hs : s.size ≤ maxLen) :
    Calls Tryd.prog 35 #[.string s, .string ⟨#[c]⟩] w fun e w' => e = .returned (.tuple #[.string (S (cutA s.data.toList c)), .string (S (cutB s.data.toList c)), .bool (cutF s.data.toList c)]) ∧ ∃ n, w' = w.drewN n := by
  unfold maxLen at hs
  have hi := indexByte_lt c s.data.toList
  rw [len_data] at hi
  have hone : (ByteArray.mk #[c]).size = 1 := rfl
  by_cases h : 0 ≤ Lib.indexByte s.data.toList c
  · obtain ⟨i, hii⟩ := Int.eq_ofNat_of_zero_le h
    have HF := Lib.hid (cut_hit hii)
    have hN : Calls Tryd.prog 41 #[.string s, .string ⟨#[c]⟩] w fun e w' => e = .returned (.int .i64 (i : Int)) ∧ w = w' :=
      (Tryd.stringslite_Index_one s c w).mono fun e w' ⟨he, hw⟩ => ⟨by rw [he, hii], hw.symm⟩
    have HN := Lib.hid hN
    have hlt : (i : Int) < s.size := by omega
    have hx1 : s.extract 0 i = S (s.data.toList.take i) := by
      have := Lib.extract_data s 0 i
      rw [List.drop_zero, Nat.sub_zero] at this
      rw [← this, S_of]
    have hx2 : s.extract (i + 1) s.size = S (s.data.toList.drop (i + 1)) := by rw [← Lib.extract_to_end, S_of]
    have HX1 := Lib.hid hx1
    have HX2 := Lib.hid hx2
    clear hii h hi hN hx1 hx2
    go_enter Tryd.func35, Tryd.ntmps35
    go_wp2_with (go_at_call 41; refine HN.out.mono ?_; rintro e w1 ⟨rfl, rfl⟩)
    go_quiet (fail)
    go_wp2
    go_ret3
    refine ⟨?_, _, rfl⟩
    rw [HF.out.1, HF.out.2.1, HF.out.2.2, ← HX1.out, ← HX2.out]; rfl
  · have hm : Lib.indexByte s.data.toList c = -1 := by omega
    have HF := Lib.hid (cut_miss hm)
    have hN : Calls Tryd.prog 41 #[.string s, .string ⟨#[c]⟩] w fun e w' => e = .returned (.int .i64 (-1)) ∧ w = w' :=
      (Tryd.stringslite_Index_one s c w).mono fun e w' ⟨he, hw⟩ => ⟨by rw [he, hm], hw.symm⟩
    have HN := Lib.hid hN
    clear hm h hi hN
    go_enter Tryd.func35, Tryd.ntmps35
    go_wp2_with (go_at_call 41; refine HN.out.mono ?_; rintro e w1 ⟨rfl, rfl⟩)
    go_ret3
    refine ⟨?_, 0, rfl⟩
    rw [HF.out.1, HF.out.2.1, HF.out.2.2, S_of]; rfl
theorem cut_any (s : ByteArray) (c : UInt8) (w : World) (hs : s.size ≤ maxLen) :
    Calls Tryd.prog 24 #[.string s, .string ⟨#[c]⟩] w fun e w' => e = .returned (.tuple #[.string (S (cutA s.data.toList c)), .string (S (cutB s.data.toList c)), .bool (cutF s.data.toList c)]) ∧ ∃ n, w' = w.drewN n := by
  have H := Lib.hid (cutIn_any s c w hs)
  go_enter Tryd.func24, Tryd.ntmps24
  go_wp2_with (go_at_call 35; refine H.out.mono ?_; rintro e w1 ⟨rfl, n, rfl⟩)
  go_ret3
  exact ⟨rfl, _, rfl⟩

/-- The parts of a text. -/
def posL (l : List UInt8) : List UInt8 := Lib.trimPrefix l [45]
def synB (l : List UInt8) : Bool := quoB (cutA (posL l) 46) && fraB (cutB (posL l) 46) && !(l == [45, 48, 46, 48, 48, 48, 48])
theorem posL_len (l : List UInt8) : (posL l).length ≤ l.length := Lib.trimPrefix_le l [45]
theorem cutA_len (l : List UInt8) (c : UInt8) : (cutA l c).length ≤ l.length := by unfold cutA; split <;> simp; omega
theorem cutB_len (l : List UInt8) (c : UInt8) : (cutB l c).length ≤ l.length := by unfold cutB; split <;> simp
theorem trim_any (s : ByteArray) (w : World) :
    Calls Tryd.prog 23 #[.string s, .string ⟨#[45]⟩] w fun e w' => e = .returned (.string (S (posL s.data.toList))) ∧ w = w' :=
  (Tryd.strings_TrimPrefix s ⟨#[45]⟩ w).mono fun e w' ⟨he, hw⟩ => ⟨he, hw.symm⟩

set_option maxHeartbeats 1000000 in
theorem parse_bad (s : ByteArray) (w : World) (hs : s.size ≤ 65536) (h : synB s.data.toList = false) :
    Calls Tryd.prog 12 #[.string s] w fun e w' => e = .returned (.tuple #[.int .i64 0, .int .i64 1]) ∧ ∃ n, w' = w.drewN n := by
  have hS := S_toList
  have hSz := S_size
  have l1 := posL_len s.data.toList
  have l2 := cutA_len (posL s.data.toList) 46
  have l3 := cutB_len (posL s.data.toList) 46
  rw [len_data] at l1
  have hC := fun wx => cut_any (S (posL s.data.toList)) 46 wx (by rw [S_size]; unfold maxLen; omega)
  have HC := Lib.hid hC
  have hQ := fun wx => isQuotient_any (S (cutA (posL s.data.toList) 46)) wx (by rw [S_size]; unfold maxLen; omega)
  have HQ := Lib.hid hQ
  have hFr := fun wx => isFraction_any (S (cutB (posL s.data.toList) 46)) wx (by rw [S_size]; unfold maxLen; omega)
  have HFr := Lib.hid hFr
  clear hC hQ hFr l1 l2 l3
  simp only [synB] at h
  cases h1 : quoB (cutA (posL s.data.toList) 46) with
  | false =>
    clear h
    go_enter Tryd.func12, Tryd.ntmps12
    go_wp2_with (first
      | (go_at_call 23; refine (trim_any _ _).mono ?_; rintro e w1 ⟨rfl, rfl⟩)
      | (go_at_call 24; refine (HC.out _).mono ?_; rintro e w1 ⟨rfl, n, rfl⟩)
      | (go_at_call 25; refine (HQ.out _).mono ?_; rintro e w1 ⟨rfl, rfl⟩))
    go_ret2
    exact ⟨rfl, _, rfl⟩
  | true =>
    cases h2 : fraB (cutB (posL s.data.toList) 46) with
    | false =>
      clear h
      go_enter Tryd.func12, Tryd.ntmps12
      go_wp2_with (first
        | (go_at_call 23; refine (trim_any _ _).mono ?_; rintro e w1 ⟨rfl, rfl⟩)
        | (go_at_call 24; refine (HC.out _).mono ?_; rintro e w1 ⟨rfl, n, rfl⟩)
        | (go_at_call 25; refine (HQ.out _).mono ?_; rintro e w1 ⟨rfl, rfl⟩)
        | (go_at_call 26; refine (HFr.out _).mono ?_; rintro e w1 ⟨rfl, rfl⟩))
      go_ret2
      exact ⟨rfl, _, rfl⟩
    | true =>
      have h3 : (s.toList == [45, 48, 46, 48, 48, 48, 48]) = true := by
        rw [h1, h2] at h
        rw [toList_eq]
        simpa using h
      clear h
      go_enter Tryd.func12, Tryd.ntmps12
      go_wp2_with (first
        | (go_at_call 23; refine (trim_any _ _).mono ?_; rintro e w1 ⟨rfl, rfl⟩)
        | (go_at_call 24; refine (HC.out _).mono ?_; rintro e w1 ⟨rfl, n, rfl⟩)
        | (go_at_call 25; refine (HQ.out _).mono ?_; rintro e w1 ⟨rfl, rfl⟩)
        | (go_at_call 26; refine (HFr.out _).mono ?_; rintro e w1 ⟨rfl, rfl⟩))
      go_ret2
      exact ⟨rfl, _, rfl⟩
end Go.Proofs.YtopngdjhnljmfaaDoor
