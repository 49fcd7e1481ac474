/- Walks: the international form, whole, in the program and in the reference. -/
import Derived.Test.YtieehofijndelaaDigNorm
namespace Go.Proofs.Ytieehofijndelaa
open Go.RowKit

set_option maxHeartbeats 1000000 in
theorem normal_any (s c : ByteArray) (w : World) (hs : s.size ≤ 65536) (hc : c.size ≤ 65536) :
    Calls Try.prog 15 #[.string s, .string c] w fun e w' => e = .returned (.tuple #[.string (S (normL s.data.toList c.data.toList)), .int .i64 (normE s.data.toList c.data.toList)]) ∧ w = w' := by
  have hil := intern_length s.data.toList c.data.toList
  simp only [len_data] at hil
  have hS := S_toList
  cases h1 : numB c.data.toList with
  | false =>
    have HF := Lib.hid (normL_no (s := s.data.toList) h1)
    go_enter Try.func15, Try.ntmps15
    go_wp2_with (go_at_call 7; refine (valid_any _ _ (by unfold maxLen; omega)).mono ?_; rintro e w1 ⟨rfl, rfl⟩)
    go_ret2
    exact ⟨ret_pair (by rw [HF.out.1]; rfl) HF.out.2.symm, rfl⟩
  | true =>
    cases h2 : numB (internL s.data.toList c.data.toList) with
    | false =>
      have HF := Lib.hid (normL_bad (s := s.data.toList) (c := c.data.toList) rfl h2)
      go_enter Try.func15, Try.ntmps15
      go_wp2_with (first
        | (go_at_call 7; refine (valid_any _ _ ?hv).mono ?_; (case hv => (first | (rw [S_size]; unfold maxLen; omega) | (unfold maxLen; omega))); rintro e w1 ⟨rfl, rfl⟩)
        | (go_at_call 22; refine (intern_any _ _ _ (by omega) (by omega)).mono ?_; rintro e w1 ⟨rfl, rfl⟩))
      go_ret2
      exact ⟨ret_pair (by rw [HF.out.1]; rfl) HF.out.2.symm, rfl⟩
    | true =>
      have HF := Lib.hid (normL_ok (s := s.data.toList) (c := c.data.toList) rfl h1 h2)
      go_enter Try.func15, Try.ntmps15
      go_wp2_with (first
        | (go_at_call 7; refine (valid_any _ _ ?hv).mono ?_; (case hv => (first | (rw [S_size]; unfold maxLen; omega) | (unfold maxLen; omega))); rintro e w1 ⟨rfl, rfl⟩)
        | (go_at_call 22; refine (intern_any _ _ _ (by omega) (by omega)).mono ?_; rintro e w1 ⟨rfl, rfl⟩))
      go_ret2
      exact ⟨ret_pair (by rw [HF.out.1]) HF.out.2.symm, rfl⟩

end Go.Proofs.Ytieehofijndelaa
