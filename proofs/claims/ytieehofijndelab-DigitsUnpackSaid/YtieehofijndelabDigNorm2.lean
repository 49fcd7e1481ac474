/- Walks: the international form, whole, in the program and in the reference. -/
import Derived.Test.YtieehofijndelabDigNorm
namespace Go.Proofs.Ytieehofijndelab
open Go.RowKit

set_option maxHeartbeats 1000000 in
theorem normal_any (s c : ByteArray) (w : World) (hs : s.size ≤ 65536) (hc : c.size ≤ 65536) :
    Calls Try.prog 8 #[.string s, .string c] w fun e w' => e = .returned (.tuple #[.string (S (normL s.data.toList c.data.toList)), .int .i64 (normE s.data.toList c.data.toList)]) ∧ w = w' := by
  have hil := intern_length s.data.toList c.data.toList
  simp only [len_data] at hil
  have hS := S_toList
  cases h1 : numB c.data.toList with
  | false =>
    have HF := Lib.hid (normL_no (s := s.data.toList) h1)
    go_enter Try.func8, Try.ntmps8
    go_wp2_with (go_at_call 10; refine (valid_any _ _ (by unfold maxLen; omega)).mono ?_; rintro e w1 ⟨rfl, rfl⟩)
    go_ret2
    exact ⟨ret_pair (by rw [HF.out.1]; rfl) HF.out.2.symm, rfl⟩
  | true =>
    cases h2 : numB (internL s.data.toList c.data.toList) with
    | false =>
      have HF := Lib.hid (normL_bad (s := s.data.toList) (c := c.data.toList) rfl h2)
      go_enter Try.func8, Try.ntmps8
      go_wp2_with (first
        | (go_at_call 10; refine (valid_any _ _ ?hv).mono ?_; (case hv => (first | (rw [S_size]; unfold maxLen; omega) | (unfold maxLen; omega))); rintro e w1 ⟨rfl, rfl⟩)
        | (go_at_call 18; refine (intern_any _ _ _ (by omega) (by omega)).mono ?_; rintro e w1 ⟨rfl, rfl⟩))
      go_ret2
      exact ⟨ret_pair (by rw [HF.out.1]; rfl) HF.out.2.symm, rfl⟩
    | true =>
      have HF := Lib.hid (normL_ok (s := s.data.toList) (c := c.data.toList) rfl h1 h2)
      go_enter Try.func8, Try.ntmps8
      go_wp2_with (first
        | (go_at_call 10; refine (valid_any _ _ ?hv).mono ?_; (case hv => (first | (rw [S_size]; unfold maxLen; omega) | (unfold maxLen; omega))); rintro e w1 ⟨rfl, rfl⟩)
        | (go_at_call 18; refine (intern_any _ _ _ (by omega) (by omega)).mono ?_; rintro e w1 ⟨rfl, rfl⟩))
      go_ret2
      exact ⟨ret_pair (by rw [HF.out.1]) HF.out.2.symm, rfl⟩

set_option maxHeartbeats 1000000 in
theorem refNormal_any (s c : ByteArray) (w : World) (hs : s.size ≤ 65536) (hc : c.size ≤ 65536) :
    Calls Try.prog 9 #[.string s, .string c] w fun e w' => e = .returned (.tuple #[.string (S (normL s.data.toList c.data.toList)), .int .i64 (normE s.data.toList c.data.toList)]) ∧ w = w' := by
  have hil := intern_length s.data.toList c.data.toList
  simp only [len_data] at hil
  have hS := S_toList
  cases h1 : numB c.data.toList with
  | false =>
    have HF := Lib.hid (normL_no (s := s.data.toList) h1)
    go_enter Try.func9, Try.ntmps9
    go_wp2_with (go_at_call 19; refine (refValid_any _ _ (by unfold maxLen; omega)).mono ?_; rintro e w1 ⟨rfl, rfl⟩)
    go_ret2
    exact ⟨ret_pair (by rw [HF.out.1]; rfl) HF.out.2.symm, rfl⟩
  | true =>
    have key : ∀ r : List UInt8, internL s.data.toList c.data.toList = r → Hid ((normL s.data.toList c.data.toList = if numB r then r else []) ∧ normE s.data.toList c.data.toList = if numB r then 0 else 12) := by
      intro r hr
      apply Lib.hid
      cases h2 : numB r with
      | false => exact normL_bad hr h2
      | true => exact normL_ok hr h1 h2
    cases g1 : Lib.hasPrefix s.data.toList [43] with
    | true =>
      have HK := key _ (intern_plus g1)
      have hp := hasPrefix_size g1
      have hx := ext1 s
      have hp1 : 1 ≤ (s.size : Int) := by simp at hp; omega
      clear key
      cases h2 : numB (s.data.toList.tail) with
      | false =>
        rw [h2] at HK
        go_enter Try.func9, Try.ntmps9
        go_wp2_with (first
          | (go_at_call 19; refine (refValid_any _ _ ?hv).mono ?_; (case hv => (first | (rw [S_size]; unfold maxLen; simp; omega) | (unfold maxLen; omega))); rintro e w1 ⟨rfl, rfl⟩)
          | (go_at_call 20; refine (refHasPrefix_any _ _ _ ?hq (by decide)).mono ?_; (case hq => (unfold maxLen; omega)); rintro e w1 ⟨rfl, rfl⟩))
        go_ret2
        exact ⟨ret_pair (by rw [HK.out.1]; first | rfl | exact (S_of _).symm) HK.out.2.symm, rfl⟩
      | true =>
        rw [h2] at HK
        go_enter Try.func9, Try.ntmps9
        go_wp2_with (first
          | (go_at_call 19; refine (refValid_any _ _ ?hv).mono ?_; (case hv => (first | (rw [S_size]; unfold maxLen; simp; omega) | (unfold maxLen; omega))); rintro e w1 ⟨rfl, rfl⟩)
          | (go_at_call 20; refine (refHasPrefix_any _ _ _ ?hq (by decide)).mono ?_; (case hq => (unfold maxLen; omega)); rintro e w1 ⟨rfl, rfl⟩))
        go_ret2
        exact ⟨ret_pair (by rw [HK.out.1]; first | rfl | exact (S_of _).symm) HK.out.2.symm, rfl⟩
    | false =>
      cases g2 : Lib.hasPrefix s.data.toList [48, 48] with
      | true =>
        have HK := key _ (intern_00 g1 g2)
        have hp := hasPrefix_size g2
        have hx := ext2 s
        have hp1 : 2 ≤ (s.size : Int) := by simp at hp; omega
        clear key
        cases h2 : numB (s.data.toList.drop 2) with
        | false =>
          rw [h2] at HK
          go_enter Try.func9, Try.ntmps9
          go_wp2_with (first
          | (go_at_call 19; refine (refValid_any _ _ ?hv).mono ?_; (case hv => (first | (rw [S_size]; unfold maxLen; simp; omega) | (unfold maxLen; omega))); rintro e w1 ⟨rfl, rfl⟩)
          | (go_at_call 20; refine (refHasPrefix_any _ _ _ ?hq (by decide)).mono ?_; (case hq => (unfold maxLen; omega)); rintro e w1 ⟨rfl, rfl⟩))
          go_ret2
          exact ⟨ret_pair (by rw [HK.out.1]; first | rfl | exact (S_of _).symm) HK.out.2.symm, rfl⟩
        | true =>
          rw [h2] at HK
          go_enter Try.func9, Try.ntmps9
          go_wp2_with (first
          | (go_at_call 19; refine (refValid_any _ _ ?hv).mono ?_; (case hv => (first | (rw [S_size]; unfold maxLen; simp; omega) | (unfold maxLen; omega))); rintro e w1 ⟨rfl, rfl⟩)
          | (go_at_call 20; refine (refHasPrefix_any _ _ _ ?hq (by decide)).mono ?_; (case hq => (unfold maxLen; omega)); rintro e w1 ⟨rfl, rfl⟩))
          go_ret2
          exact ⟨ret_pair (by rw [HK.out.1]; first | rfl | exact (S_of _).symm) HK.out.2.symm, rfl⟩
      | false =>
        cases g3 : Lib.hasPrefix s.data.toList [48] with
        | true =>
          have HK := key _ (intern_0 g1 g2 g3)
          have hp := hasPrefix_size g3
          have hx := ext1 s
          have hp1 : 1 ≤ (s.size : Int) := by simp at hp; omega
          have hadd : (Op.stringOp .add c (S (s.data.toList.tail))).run Try.prog w = .ok (.string (S (c.data.toList ++ s.data.toList.tail))) w := by
            rw [run_string_add_sum w _ _ (by rw [S_size]; simp; omega), append_S, S_toList]
          clear key
          cases h2 : numB (c.data.toList ++ s.data.toList.tail) with
          | false =>
            rw [h2] at HK
            go_enter Try.func9, Try.ntmps9
            go_wp2_with (first
          | (go_at_call 19; refine (refValid_any _ _ ?hv).mono ?_; (case hv => (first | (rw [S_size]; unfold maxLen; simp; omega) | (unfold maxLen; omega))); rintro e w1 ⟨rfl, rfl⟩)
          | (go_at_call 20; refine (refHasPrefix_any _ _ _ ?hq (by decide)).mono ?_; (case hq => (unfold maxLen; omega)); rintro e w1 ⟨rfl, rfl⟩))
            go_ret2
            exact ⟨ret_pair (by rw [HK.out.1]; first | rfl | exact (S_of _).symm) HK.out.2.symm, rfl⟩
          | true =>
            rw [h2] at HK
            go_enter Try.func9, Try.ntmps9
            go_wp2_with (first
          | (go_at_call 19; refine (refValid_any _ _ ?hv).mono ?_; (case hv => (first | (rw [S_size]; unfold maxLen; simp; omega) | (unfold maxLen; omega))); rintro e w1 ⟨rfl, rfl⟩)
          | (go_at_call 20; refine (refHasPrefix_any _ _ _ ?hq (by decide)).mono ?_; (case hq => (unfold maxLen; omega)); rintro e w1 ⟨rfl, rfl⟩))
            go_ret2
            exact ⟨ret_pair (by rw [HK.out.1]; first | rfl | exact (S_of _).symm) HK.out.2.symm, rfl⟩
        | false =>
          have HK := key _ (intern_else g1 g2 g3)
          clear key
          cases h2 : numB (s.data.toList) with
          | false =>
            rw [h2] at HK
            go_enter Try.func9, Try.ntmps9
            go_wp2_with (first
          | (go_at_call 19; refine (refValid_any _ _ ?hv).mono ?_; (case hv => (first | (rw [S_size]; unfold maxLen; simp; omega) | (unfold maxLen; omega))); rintro e w1 ⟨rfl, rfl⟩)
          | (go_at_call 20; refine (refHasPrefix_any _ _ _ ?hq (by decide)).mono ?_; (case hq => (unfold maxLen; omega)); rintro e w1 ⟨rfl, rfl⟩))
            go_ret2
            exact ⟨ret_pair (by rw [HK.out.1]; first | rfl | exact (S_of _).symm) HK.out.2.symm, rfl⟩
          | true =>
            rw [h2] at HK
            go_enter Try.func9, Try.ntmps9
            go_wp2_with (first
          | (go_at_call 19; refine (refValid_any _ _ ?hv).mono ?_; (case hv => (first | (rw [S_size]; unfold maxLen; simp; omega) | (unfold maxLen; omega))); rintro e w1 ⟨rfl, rfl⟩)
          | (go_at_call 20; refine (refHasPrefix_any _ _ _ ?hq (by decide)).mono ?_; (case hq => (unfold maxLen; omega)); rintro e w1 ⟨rfl, rfl⟩))
            go_ret2
            exact ⟨ret_pair (by rw [HK.out.1]; first | rfl | exact (S_of _).symm) HK.out.2.symm, rfl⟩
end Go.Proofs.Ytieehofijndelab
