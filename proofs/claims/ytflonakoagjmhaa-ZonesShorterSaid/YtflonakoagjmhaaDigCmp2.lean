/- Walk: the order of strings in the program, whose arguments are compared as structs. -/
import Derived.Test.YtflonakoagjmhaaDigCmp
namespace Go.Proofs.Ytflonakoagjmhaa
open Go.RowKit

theorem cmpInt_any (x y : Int) (w : World) : Calls Try.prog 50 #[.int .i64 x, .int .i64 y] w fun e w' => e = .returned (.int .i64 (Lib.compareInt x y)) ∧ w = w' :=
  (Try.cmp_Compare_int x y w).mono fun e w' ⟨he, hw⟩ => ⟨he, hw.symm⟩
set_option maxHeartbeats 1000000 in
theorem compare_any (a b : ByteArray) (w : World) (ha : a.size ≤ maxLen) (hb : b.size ≤ maxLen) :
    Calls Try.prog 36 #[.string a, .string b] w fun e w' => e = .returned (.int .i64 (cmpS a b)) ∧ Below w.heap.size w w' := by
  unfold maxLen at ha hb
  rcases Nat.lt_trichotomy a.size b.size with h | h | h
  · have HF := Lib.hid (cmp_shorter h)
    have h1 : ((a.size : Int) != b.size) = true := by simp; omega
    have h2 : ((a.size : Int) == b.size) = false := by simp; omega
    have hc : Lib.compareInt (a.size : Int) (b.size : Int) = -1 := by unfold Lib.compareInt; rw [if_pos (by omega)]
    have HC := Lib.hid hc; have H : Hid (a.size = a.size) := Lib.hid rfl
    clear hc h
    go_enter Try.func36, Try.ntmps36
    go_wp2_with (first
      | (go_at_call 50; refine (cmpInt_any _ _ _).mono ?_; rintro e w1 ⟨rfl, rfl⟩)
      | (go_at_call 39; refine (cmpStr_any _ _ _ ‹_›).mono ?_; rintro e w1 ⟨rfl, rfl⟩))
    go_ret
    exact ⟨ret_int (HC.out.trans HF.out.symm), ((Below.refl _ w).alloc (Nat.le_refl _) _).alloc (by simp) _⟩
  · have h1 : ((a.size : Int) != b.size) = false := by simp; omega
    have h2 : ((a.size : Int) == b.size) = true := by simp; omega
    have H := Lib.hid h; clear h
    cases g2 : (a.toList == b.toList) with
    | true =>
      have HF : Hid (cmpS a b = 0) := Lib.hid (cmp_same H.out (by rw [eq_of_beq g2]; exact less_irrefl _) g2)
      go_enter Try.func36, Try.ntmps36
      go_wp2_with (first
      | (go_at_call 50; refine (cmpInt_any _ _ _).mono ?_; rintro e w1 ⟨rfl, rfl⟩)
      | (go_at_call 39; refine (cmpStr_any _ _ _ H.out).mono ?_; rintro e w1 ⟨rfl, rfl⟩))
      go_ret
      exact ⟨ret_int (HF.out.symm), ((Below.refl _ w).alloc (Nat.le_refl _) _).alloc (by simp) _⟩
    | false =>
      go_enter Try.func36, Try.ntmps36
      go_wp2_with (first
      | (go_at_call 50; refine (cmpInt_any _ _ _).mono ?_; rintro e w1 ⟨rfl, rfl⟩)
      | (go_at_call 39; refine (cmpStr_any _ _ _ H.out).mono ?_; rintro e w1 ⟨rfl, rfl⟩))
      go_ret
      exact ⟨ret_int (rfl), ((Below.refl _ w).alloc (Nat.le_refl _) _).alloc (by simp) _⟩
  · have HF := Lib.hid (cmp_longer h)
    have h1 : ((a.size : Int) != b.size) = true := by simp; omega
    have h2 : ((a.size : Int) == b.size) = false := by simp; omega
    have hc : Lib.compareInt (a.size : Int) (b.size : Int) = 1 := by unfold Lib.compareInt; rw [if_neg (by omega), if_pos (by omega)]
    have HC := Lib.hid hc; have H : Hid (a.size = a.size) := Lib.hid rfl
    clear hc h
    go_enter Try.func36, Try.ntmps36
    go_wp2_with (first
      | (go_at_call 50; refine (cmpInt_any _ _ _).mono ?_; rintro e w1 ⟨rfl, rfl⟩)
      | (go_at_call 39; refine (cmpStr_any _ _ _ ‹_›).mono ?_; rintro e w1 ⟨rfl, rfl⟩))
    go_ret
    exact ⟨ret_int (HC.out.trans HF.out.symm), ((Below.refl _ w).alloc (Nat.le_refl _) _).alloc (by simp) _⟩
end Go.Proofs.Ytflonakoagjmhaa
