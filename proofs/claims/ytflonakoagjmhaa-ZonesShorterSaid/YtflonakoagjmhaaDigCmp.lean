/- Walks: the order of strings, in the program and in the reference. -/
import Derived.Test.YtflonakoagjmhaaRows
import Derived.Test.YtflonakoagjmhaaDigM
import Derived.Test.YtflonakoagjmhaaShelf
import Derived.Below
namespace Go.Proofs.Ytflonakoagjmhaa
open Go.RowKit

/-- The order: by the number of bytes, then byte by byte. -/
def cmpS (a b : ByteArray) : Int :=
  if a.size < b.size then -1 else if b.size < a.size then 1 else if Op.bytesLess a.toList b.toList then -1 else if a.toList == b.toList then 0 else 1
theorem cmp_shorter {a b : ByteArray} (h : a.size < b.size) : cmpS a b = -1 := by simp [cmpS, h]
theorem cmp_longer {a b : ByteArray} (h : b.size < a.size) : cmpS a b = 1 := by simp [cmpS, h]; omega
theorem cmp_less {a b : ByteArray} (h : a.size = b.size) (h2 : Op.bytesLess a.toList b.toList = true) : cmpS a b = -1 := by simp [cmpS, h, h2]
theorem cmp_same {a b : ByteArray} (h : a.size = b.size) (h2 : Op.bytesLess a.toList b.toList = false) (h3 : (a.toList == b.toList) = true) : cmpS a b = 0 := by
  unfold cmpS; rw [if_neg (by omega), if_neg (by omega), h2, h3]; rfl
theorem cmp_greater {a b : ByteArray} (h : a.size = b.size) (h2 : Op.bytesLess a.toList b.toList = false) (h3 : (a.toList == b.toList) = false) : cmpS a b = 1 := by
  unfold cmpS; rw [if_neg (by omega), if_neg (by omega), h2, h3]; rfl
theorem less_irrefl : ∀ l : List UInt8, Op.bytesLess l l = false
  | [] => rfl
  | c :: l => by simp [Op.bytesLess, less_irrefl l, UInt8.lt_irrefl]

set_option maxHeartbeats 1000000 in
theorem refCompare_any (a b : ByteArray) (w : World) (ha : a.size ≤ maxLen) (hb : b.size ≤ maxLen) :
    Calls Try.prog 53 #[.string a, .string b] w fun e w' => e = .returned (.int .i64 (cmpS a b)) ∧ w = w' := by
  unfold maxLen at ha hb
  rcases Nat.lt_trichotomy a.size b.size with h | h | h
  · have HF := Lib.hid (cmp_shorter h)
    have h' : (a.size : Int) < b.size := by omega
    go_enter Try.func53, Try.ntmps53
    go_wp2
    go_ret
    exact ⟨ret_int HF.out.symm, rfl⟩
  · have h1 : ¬ (a.size : Int) < b.size := by omega
    have h2 : ¬ (b.size : Int) < a.size := by omega
    have h3 : decide ((a.size : Int) < b.size) = false := by simpa using h1
    have h4 : decide ((b.size : Int) < a.size) = false := by simpa using h2
    cases g1 : Op.bytesLess a.toList b.toList with
    | true =>
      have HF := Lib.hid (cmp_less h g1)
      have H := Lib.hid h; clear h
      go_enter Try.func53, Try.ntmps53
      go_wp2
      go_ret
      exact ⟨ret_int HF.out.symm, rfl⟩
    | false =>
      cases g2 : (a.toList == b.toList) with
      | true =>
        have HF := Lib.hid (cmp_same h g1 g2)
        have H := Lib.hid h; clear h
        go_enter Try.func53, Try.ntmps53
        go_wp2
        go_ret
        exact ⟨ret_int HF.out.symm, rfl⟩
      | false =>
        have HF := Lib.hid (cmp_greater h g1 g2)
        have H := Lib.hid h; clear h
        go_enter Try.func53, Try.ntmps53
        go_wp2
        go_ret
        exact ⟨ret_int HF.out.symm, rfl⟩
  · have HF := Lib.hid (cmp_longer h)
    have h' : (b.size : Int) < a.size := by omega
    go_enter Try.func53, Try.ntmps53
    go_wp2
    go_ret
    exact ⟨ret_int HF.out.symm, rfl⟩

theorem isNaN_any (s : ByteArray) (w : World) :
    Calls Try.prog 52 #[.string s] w fun e w' => e = .returned (.bool false) ∧ w = w' := by
  go_enter Try.func52, Try.ntmps52
  go_wp2
  go_ret
  exact ⟨ret_bool (by simp), rfl⟩
set_option maxHeartbeats 1000000 in
theorem cmpStr_any (a b : ByteArray) (w : World) (h : a.size = b.size) :
    Calls Try.prog 39 #[.string a, .string b] w fun e w' => e = .returned (.int .i64 (cmpS a b)) ∧ w = w' := by
  cases g1 : Op.bytesLess a.toList b.toList with
  | true =>
    have HF := Lib.hid (cmp_less h g1)
    have H := Lib.hid h; clear h
    go_enter Try.func39, Try.ntmps39
    go_wp2_with (go_at_call 52; refine (isNaN_any _ _).mono ?_; rintro e w1 ⟨rfl, rfl⟩)
    go_ret
    exact ⟨ret_int HF.out.symm, rfl⟩
  | false =>
    cases g2 : (a.toList == b.toList) with
    | true =>
      have HF := Lib.hid (cmp_same h g1 g2)
      have H := Lib.hid h; clear h
      go_enter Try.func39, Try.ntmps39
      go_wp2_with (go_at_call 52; refine (isNaN_any _ _).mono ?_; rintro e w1 ⟨rfl, rfl⟩)
      go_ret
      exact ⟨ret_int HF.out.symm, rfl⟩
    | false =>
      have HF := Lib.hid (cmp_greater h g1 g2)
      have H := Lib.hid h; clear h
      go_enter Try.func39, Try.ntmps39
      go_wp2_with (go_at_call 52; refine (isNaN_any _ _).mono ?_; rintro e w1 ⟨rfl, rfl⟩)
      go_ret
      exact ⟨ret_int HF.out.symm, rfl⟩
end Go.Proofs.Ytflonakoagjmhaa
