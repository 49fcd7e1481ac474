/- Walk: the law on the texts of amounts. -/
import Derived.Test.YtieehofijndelaaDoorAmtAwake
import Derived.Test.YtieehofijndelaaDoorAmtPar3
import Derived.Test.YtieehofijndelaaDoorAmtRefP
import Derived.Test.YtieehofijndelaaDoorLawKit
namespace Go.Proofs.YtieehofijndelaaDoor
open Go.RowKit

theorem parse_any (s : ByteArray) (w : World) (hs : s.size ≤ 65536) (hP : Pows w) (hz : 0 < w.heap.size) :
    Calls Tryd.prog 31 #[.string s] w fun e w' => e = .returned (.tuple #[.int .i64 (psV s.data.toList), .int .i64 (psE s.data.toList)]) ∧ Below w.heap.size w w' := by
  cases h : synB s.data.toList with
  | true => exact parse_good s w hs h hP hz
  | false =>
    have := ps_bad h
    exact (parse_bad s w hs h).mono fun e w' ⟨he, n, hw⟩ => ⟨he.trans (ret_ints this.1.symm this.2.symm), by rw [hw]; exact below_drewN (Below.refl _ _) n⟩
set_option maxHeartbeats 1000000 in
theorem refParse_any (s : ByteArray) (w : World) (hs : s.size ≤ 65536) :
    Calls Tryd.prog 34 #[.string s] w fun e w' => e = .returned (.tuple #[.int .i64 (psV s.data.toList), .int .i64 (psE s.data.toList)]) ∧ w = w' := by
  by_cases h0 : s.size = 0
  · have hl : s.data.toList = [] := List.length_eq_zero_iff.1 (by rw [len_data]; exact h0)
    have HF := Lib.hid (ps_bad (l := s.data.toList) (by rw [hl]; rfl))
    have h0' : (s.size : Int) ≤ 0 := by omega
    have hd : decide ((0 : Int) < s.size) = false := decide_eq_false (by omega)
    clear h0 hl
    go_enter Tryd.func34, Tryd.ntmps34
    go_wp2
    go_ret2
    exact ⟨ret_ints HF.out.1.symm HF.out.2.symm, rfl⟩
  · have hp : 0 < s.size := by omega
    have hh : s.data.toList.head? = some s[0] := by
      rw [List.head?_eq_getElem?, List.getElem?_eq_getElem (by rw [len_data]; exact hp)]; rfl
    cases hn : Lib.hasPrefix s.data.toList [45] with
    | true =>
      have hc : s.data.toList = 45 :: posL s.data.toList := by
        rcases posL_cases s.data.toList with ⟨_, h⟩ | ⟨h, _⟩
        · exact h
        · rw [hn] at h; cases h
      have h45 : s[0] = 45 := by rw [hc] at hh; simpa using hh.symm
      have hb : ((s[0].toNat : Int) == 45) = true := by rw [h45]; rfl
      have hx : s.extract 1 s.size = S (posL s.data.toList) := by
        rw [← S_of (s.extract 1 s.size), Lib.extract_to_end]
        congr 1
        conv => lhs; rw [hc]
        rfl
      exact refParse_neg s _ w hs (by rw [S_size]; have := posL_len s.data.toList; rw [len_data] at this; omega) hp hb hx (Lib.hid hn) (Lib.hid rfl) (Lib.hid (S_size _).symm)
    | false =>
      have hc : posL s.data.toList = s.data.toList := by
        rcases posL_cases s.data.toList with ⟨h, _⟩ | ⟨_, h⟩
        · rw [hn] at h; cases h
        · exact h
      have hb : ((s[0].toNat : Int) == 45) = false := by
        rw [beq_eq_false_iff_ne]
        intro h
        have h45 : s[0] = 45 := UInt8.toNat_inj.1 (Int.ofNat.inj h)
        rw [h45] at hh
        cases hl : s.data.toList with
        | nil => rw [hl] at hh; simp at hh
        | cons a r => rw [hl] at hh hn; simp at hh; subst hh; simp [Lib.hasPrefix] at hn
      exact refParse_pos s w hs hp hb (Lib.hid hn) (Lib.hid hc.symm) (Lib.hid (by rw [hc, len_data]))

set_option maxHeartbeats 2000000 in
theorem walkAmountParses (s : ByteArray) (w : World) (hs : s.size ≤ maxLen) (hP : Pows w) (hz : 0 < w.heap.size) :
    Calls Tryd.prog 11 #[.string s] w fun e w' => e = .returned (.bool true) ∧ Below w.heap.size w w' := by
  unfold maxLen at hs
  have HP := Lib.hid hP; clear hP
  by_cases hl : 200 < (s.size : Int)
  · go_enter Tryd.func11, Tryd.ntmps11
    go_wp2_with (go_at_call 12; refine (awake_any _ HP.out hz).mono ?_; rintro e w1 ⟨rfl, hb1⟩)
    go_ret
    exact ⟨rfl, hb1⟩
  · go_enter Tryd.func11, Tryd.ntmps11
    go_wp2_with fail
    refine (parse_any s _ (by omega) HP.out hz).mono ?_
    rintro e w1 ⟨rfl, hb1⟩
    have HP1 := Lib.hid (HP.out.below hz hb1)
    have hz1 : 0 < w1.heap.size := Nat.lt_of_lt_of_le hz hb1.size
    go_wp2_with (first
      | (go_at_call 12; refine (awake_any _ HP1.out hz1).mono ?_; rintro e w4 ⟨rfl, hb4⟩)
      | (go_at_call 34; refine (refParse_any _ _ (by omega)).mono ?_; rintro e w3 ⟨rfl, rfl⟩))
    go_ret
    exact ⟨rfl, hb1.trans (hb4.mono hb1.size)⟩
end Go.Proofs.YtieehofijndelaaDoor
