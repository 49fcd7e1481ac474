/- Walks: the laws on the international form and on the packed form. -/
import Derived.Test.YtieehofijndelabDigAwake
import Derived.Test.YtieehofijndelabLawKit
namespace Go.Proofs.Ytieehofijndelab
open Go.RowKit

theorem normE_cases (s c : List UInt8) : normE s c = 12 ∨ (normE s c = 0 ∧ numB c = true ∧ numB (normL s c) = true) := by
  cases h1 : numB c with
  | false => exact .inl (normL_no h1).2
  | true =>
    cases h2 : numB (internL s c) with
    | false => exact .inl (normL_bad rfl h2).2
    | true => exact .inr ⟨(normL_ok rfl h1 h2).2, rfl, by rw [(normL_ok rfl h1 h2).1]; exact h2⟩
theorem norm_again {r c : List UInt8} (h1 : numB c = true) (h2 : numB r = true) : normL (43 :: r) c = r ∧ normE (43 :: r) c = 0 := by
  have e : internL (43 :: r) c = r := intern_plus (s := 43 :: r) (by simp [Lib.hasPrefix])
  exact normL_ok e h1 h2
theorem num_len_le {l : List UInt8} (h : numB l = true) : l.length ≤ 15 := by
  simp only [numB, Bool.and_eq_true, decide_eq_true_eq] at h; exact h.1.2

set_option maxHeartbeats 4000000 in
theorem walkDigitsNormal (s c : ByteArray) (w : World) (hs : s.size ≤ maxLen) (hc : c.size ≤ maxLen) :
    Calls Try.prog 3 #[.string s, .string c] w fun e w' => e = .returned (.bool true) ∧ Below w.heap.size w w' := by
  unfold maxLen at hs hc
  by_cases hl : 200 < (s.size : Int)
  · go_enter Try.func3, Try.ntmps3
    go_wp2_with (go_at_call 7; refine (awake_any _).mono ?_; rintro e w1 ⟨rfl, hb1⟩)
    go_ret
    exact ⟨rfl, hb1⟩
  · by_cases hl2 : 200 < (c.size : Int)
    · go_enter Try.func3, Try.ntmps3
      go_wp2_with (go_at_call 7; refine (awake_any _).mono ?_; rintro e w1 ⟨rfl, hb1⟩)
      go_ret
      exact ⟨rfl, hb1⟩
    · have hS := S_toList
      rcases normE_cases s.data.toList c.data.toList with hE | ⟨hE, h1, h2⟩
      · go_enter Try.func3, Try.ntmps3
        go_wp2_with (first
          | (go_at_call 7; refine (awake_any _).mono ?_; rintro e w1 ⟨rfl, hb1⟩)
          | (go_at_call 8; refine (normal_any _ _ _ (by omega) (by omega)).mono ?_; rintro e w1 ⟨rfl, rfl⟩)
          | (go_at_call 9; refine (refNormal_any _ _ _ (by omega) (by omega)).mono ?_; rintro e w1 ⟨rfl, rfl⟩))
        go_ret
        exact ⟨rfl, hb1⟩
      · have hlen := num_len_le h2
        have hag := norm_again h1 h2
        generalize hr : normL s.data.toList c.data.toList = r at *
        have HR := Lib.hid hr; clear hr
        have hadd : (Op.stringOp .add ⟨#[43]⟩ (S r)).run Try.prog w = .ok (.string (S (43 :: r))) w := by
          rw [run_string_add_sum w _ _ (by rw [S_size]; show 1 + _ ≤ _; omega), show (⟨#[43]⟩ : ByteArray) = S [43] from rfl, S_append]; rfl
        have hN : Calls Try.prog 8 #[.string s, .string c] w fun e w' => e = .returned (.tuple #[.string (S r), .int .i64 0]) ∧ w = w' := by
          refine (normal_any s c w (by omega) (by omega)).mono fun e w' ⟨he, hw⟩ => ⟨?_, hw⟩
          rw [he, HR.out, hE]
        have hM : Calls Try.prog 9 #[.string s, .string c] w fun e w' => e = .returned (.tuple #[.string (S r), .int .i64 0]) ∧ w = w' := by
          refine (refNormal_any s c w (by omega) (by omega)).mono fun e w' ⟨he, hw⟩ => ⟨?_, hw⟩
          rw [he, HR.out, hE]
        have hN2 : Calls Try.prog 8 #[.string (S (43 :: r)), .string c] w fun e w' => e = .returned (.tuple #[.string (S r), .int .i64 0]) ∧ w = w' := by
          refine (normal_any (S (43 :: r)) c w (by rw [S_size]; simp; omega) (by omega)).mono fun e w' ⟨he, hw⟩ => ⟨?_, hw⟩
          rw [he, S_toList, hag.1, hag.2]
        have H1 := Lib.hid hN; have H2 := Lib.hid hM; have H3 := Lib.hid hN2
        clear hN hM hN2 hag hE h1
        go_enter Try.func3, Try.ntmps3
        go_wp2_with fail
        refine H1.out.mono ?_
        rintro e w1 ⟨rfl, rfl⟩
        go_wp2_with fail
        refine H2.out.mono ?_
        rintro e w1 ⟨rfl, rfl⟩
        go_wp2_with fail
        refine H3.out.mono ?_
        rintro e w1 ⟨rfl, rfl⟩
        go_wp2_with (first
          | (go_at_call 7; refine (awake_any _).mono ?_; rintro e w1 ⟨rfl, hb1⟩)
          | (go_at_call 10; refine (valid_any _ _ (by rw [S_size]; unfold maxLen; omega)).mono ?_; rintro e w1 ⟨rfl, rfl⟩))
        go_ret
        exact ⟨rfl, hb1⟩
end Go.Proofs.Ytieehofijndelab
