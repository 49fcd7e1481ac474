/- Walks: prefixes and the international form, in the program and in the reference. -/
import Derived.Test.YtieehofijndelaaRows
import Derived.Test.YtieehofijndelaaDigV
import Derived.Test.YtieehofijndelaaDigNormM
import Derived.Test.YtieehofijndelaaShelf
import Derived.Below
namespace Go.Proofs.Ytieehofijndelaa
open Go.RowKit

theorem hasPrefix_any (s p : ByteArray) (w : World) :
    Calls Try.prog 9 #[.string s, .string p] w fun e w' => e = .returned (.bool (Lib.hasPrefix s.data.toList p.data.toList)) ∧ w = w' := by
  go_enter Try.func9, Try.ntmps9
  go_wp2_with (go_at_call 19; refine (Try.strings_HasPrefix _ _ _).mono ?_; rintro e w1 ⟨rfl, rfl⟩)
  go_ret
  exact ⟨rfl, rfl⟩

theorem cut_any (s : ByteArray) (p : List UInt8) (w : World) :
    Calls Try.prog 27 #[.string s, .string ⟨p.toArray⟩] w fun e w' => e = .returned (.tuple #[.string (S (Lib.trimPrefix s.data.toList p)), .bool (Lib.hasPrefix s.data.toList p)]) ∧ w = w' :=
  (Try.strings_CutPrefix s ⟨p.toArray⟩ w).mono fun e w' ⟨he, hw⟩ => ⟨he, hw.symm⟩

set_option maxHeartbeats 1000000 in
theorem refHasPrefix_any (s p : ByteArray) (w : World) (hs : s.size ≤ maxLen) (hp : p.size ≤ maxLen) :
    Calls Try.prog 10 #[.string s, .string p] w fun e w' => e = .returned (.bool (Lib.hasPrefix s.data.toList p.data.toList)) ∧ w = w' := by
  unfold maxLen at hs hp
  have HF := Lib.hid (Lib.hasPrefix_raw s p)
  by_cases h : p.size ≤ s.size
  · have hd : decide (p.size ≤ s.size) = true := by simpa using h
    go_enter Try.func10, Try.ntmps10
    go_wp2
    go_ret
    refine ⟨ret_bool ?_, rfl⟩
    rw [← HF.out, hd]; simp
  · have hd : decide (p.size ≤ s.size) = false := by simpa using h
    go_enter Try.func10, Try.ntmps10
    go_wp2
    go_ret
    refine ⟨ret_bool ?_, rfl⟩
    rw [← HF.out, hd]; simp

set_option maxHeartbeats 1000000 in
theorem intern_any (s c : ByteArray) (w : World) (hs : s.size ≤ 65536) (hc : c.size ≤ 65536) :
    Calls Try.prog 22 #[.string s, .string c] w fun e w' => e = .returned (.string (S (internL s.data.toList c.data.toList))) ∧ w = w' := by
  cases h1 : Lib.hasPrefix s.data.toList [43] with
  | true =>
    have HF := Lib.hid ((intern_plus (c := c.data.toList) h1).trans ((trim_hit h1).trans List.drop_one).symm)
    go_enter Try.func22, Try.ntmps22
    go_wp2_with (go_at_call 27; refine (cut_any _ _ _).mono ?_; rintro e w1 ⟨rfl, rfl⟩)
    go_ret
    exact ⟨ret_str (by rw [HF.out]), rfl⟩
  | false =>
    cases h2 : Lib.hasPrefix s.data.toList [48, 48] with
    | true =>
      have HF := Lib.hid ((intern_00 (c := c.data.toList) h1 h2).trans (trim_hit h2).symm)
      go_enter Try.func22, Try.ntmps22
      go_wp2_with (go_at_call 27; refine (cut_any _ _ _).mono ?_; rintro e w1 ⟨rfl, rfl⟩)
      go_ret
      exact ⟨ret_str (by rw [HF.out]), rfl⟩
    | false =>
      cases h3 : Lib.hasPrefix s.data.toList [48] with
      | true =>
        have HF := Lib.hid (intern_0 (c := c.data.toList) h1 h2 h3)
        have HT := Lib.hid ((trim_hit h3).trans List.drop_one)
        have hlen : (Lib.trimPrefix s.data.toList [48]).length ≤ s.size := by rw [trim_hit h3]; simp
        have hadd : (Op.stringOp .add c (S (Lib.trimPrefix s.data.toList [48]))).run Try.prog w = .ok (.string (S (c.data.toList ++ Lib.trimPrefix s.data.toList [48]))) w := by
          rw [run_string_add_sum w _ _ (by rw [S_size]; omega), append_S, S_toList]
        go_enter Try.func22, Try.ntmps22
        go_wp2_with (go_at_call 27; refine (cut_any _ _ _).mono ?_; rintro e w1 ⟨rfl, rfl⟩)
        go_ret
        exact ⟨ret_str (by rw [HF.out, HT.out]), rfl⟩
      | false =>
        have HF := Lib.hid (intern_else (c := c.data.toList) h1 h2 h3)
        go_enter Try.func22, Try.ntmps22
        go_wp2_with (go_at_call 27; refine (cut_any _ _ _).mono ?_; rintro e w1 ⟨rfl, rfl⟩)
        go_ret
        exact ⟨ret_str (by rw [HF.out, S_of]), rfl⟩
end Go.Proofs.Ytieehofijndelaa
