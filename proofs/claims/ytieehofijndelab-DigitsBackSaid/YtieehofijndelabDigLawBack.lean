/- Walks: the laws on the packed form. -/
import Derived.Test.YtieehofijndelabDigAwake
import Derived.Test.YtieehofijndelabDigUnp2
import Derived.Test.YtieehofijndelabDigBackM
import Derived.Deep.AppendLies
import Derived.Test.YtieehofijndelabLawKit
namespace Go.Proofs.Ytieehofijndelab
open Go.RowKit

theorem packB (s : ByteArray) (w : World) (hn : numB s.data.toList = true) :
    Calls Try.prog 11 #[.string s] w fun e w' => ∃ g cap, e = .returned (.tuple #[.slice (some ⟨g, 0, none⟩) ((s.size + 1) / 2) cap, .int .i64 0]) ∧ w.heap.size ≤ g ∧ g < w'.heap.size ∧ w'.ownsRow w.heap.size 5 1 (.slice (some ⟨g, 0, none⟩) ((s.size + 1) / 2) cap) ((s.size + 1) / 2) (pkTo s.data.toList ((s.size + 1) / 2)) ∧ Below w.heap.size w w' := by
  have hl := num_len hn
  refine (pack_ok s w hn).mono fun e w' ⟨v, he, ho, hb⟩ => ?_
  obtain ⟨g, cap, hv, h1, h2⟩ := World.ownsRow.form ho (by omega)
  subst hv
  exact ⟨g, cap, he, h1, h2, ho, hb⟩

set_option maxHeartbeats 4000000 in
theorem walkDigitsBack (s : ByteArray) (w : World) (hs : s.size ≤ maxLen) :
    Calls Try.prog 4 #[.string s] w fun e w' => e = .returned (.bool true) ∧ Below w.heap.size w w' := by
  have hs0 := hs
  unfold maxLen at hs
  by_cases hl : 200 < (s.size : Int)
  · go_enter Try.func4, Try.ntmps4
    go_wp2_with (go_at_call 7; refine (awake_any _).mono ?_; rintro e w1 ⟨rfl, hb1⟩)
    go_ret
    exact ⟨rfl, hb1⟩
  · cases hn : numB s.data.toList with
    | false =>
      have HN := Lib.hid hn; clear hn
      have hconv := Lib.run_convert_nil_bytes (P := Try.prog) w _ _ _ 0 Try.underlying28 Try.underlying5 Try.underlying9
      go_enter Try.func4, Try.ntmps4
      go_wp2_with (first
        | (go_at_call 7; refine (awake_any _).mono ?_; rintro e w1 ⟨rfl, hb1⟩)
        | (go_at_call 11; refine (pack_no _ _ hs0 HN.out).mono ?_; rintro e w1 ⟨rfl, rfl⟩)
        | (go_at_call 12; refine (refPack_no _ _ hs0 HN.out).mono ?_; rintro e w1 ⟨rfl, rfl⟩))
      go_ret
      exact ⟨rfl, hb1⟩
    | true =>
      have hlen := num_len hn
      have hd : s.data.toList.all dgt = true := by simp only [numB, Bool.and_eq_true] at hn; exact hn.2
      have hback := unp_back hn
      rw [len_data] at hback
      have HN := Lib.hid hn; clear hn
      have HD := Lib.hid hd; clear hd
      have HB := Lib.hid hback; clear hback
      obtain ⟨m, hm⟩ : ∃ m, (s.size + 1) / 2 = m := ⟨_, rfl⟩
      have hm1 : 2 * m ≤ s.size + 1 := by omega
      have hm2 : 0 < m := by omega
      have HM := Lib.hid hm; clear hm
      go_enter Try.func4, Try.ntmps4
      go_wp2_with fail
      refine (packB s _ HN.out).mono ?_
      rintro e w1 ⟨g, cap, rfl, hg0, hg1, hown, hb1⟩
      rw [HM.out] at hown ⊢
      go_wp2_with fail
      refine (refPack_ok s _ HN.out).mono ?_
      rintro e w2 ⟨v2, rfl, hown2, hb2⟩
      rw [HM.out] at hown2
      have hU := U_pkB HD.out m (by rw [len_data]; exact hm1)
      rw [← hU] at hown hown2
      have hown1 := ownsRow_below hown hb2
      have hne : pkB s.data.toList m ≠ [] := by intro h; have := congrArg List.length h; rw [pkB_length] at this; simp at this; omega
      have hpl := pkB_length s.data.toList m
      have hc1 : (convert 28 9 (.slice (some ⟨g, 0, none⟩) m cap)).run Try.prog w2 = .ok (.string (S (pkB s.data.toList m))) w2 := own_string _ _ _ Try.underlying28 Try.underlying5 Try.underlying9 (by rw [hpl]; exact hown1) hne
      have hc2 : (convert 28 9 v2).run Try.prog w2 = .ok (.string (S (pkB s.data.toList m))) w2 := own_string _ _ _ Try.underlying28 Try.underlying5 Try.underlying9 (by rw [hpl]; exact hown2) hne
      have hB : Bts w2 (some ⟨g, 0, none⟩) m (pkZ s.data.toList m) := bts_own (e := 5) (base := w.heap.size) (cap := cap) HD.out (by rw [len_data]; exact hm1) (by rw [← hU]; exact hown1) (Nat.lt_of_lt_of_le hg1 hb2.size)
      have hU3 : Calls Try.prog 13 #[.slice (some ⟨g, 0, none⟩) m cap] w2 fun e w' => e = .returned (.tuple #[.string s, .int .i64 0]) ∧ Below w2.heap.size w2 w' := by
        refine (unpack_any _ m cap _ w2 hB (by unfold maxLen; omega)).mono fun e w' ⟨he, hb⟩ => ⟨he.trans ?_, hb⟩
        have := HB.out
        rw [HM.out] at this
        exact ret_pair (by rw [this.1, S_of]) this.2
      have H3 := Lib.hid hU3
      have hbb : Below w.heap.size w w2 := hb1.trans (hb2.mono hb1.size)
      clear hU hne hpl hB hU3 hown hown2 hown1 hb1 hb2
      go_wp2_with (first
        | (go_at_call 7; refine (awake_any _).mono ?_; rintro e w4 ⟨rfl, hb4⟩)
        | (go_at_call 13; refine H3.out.mono ?_; rintro e w3 ⟨rfl, hb3⟩))
      go_ret
      exact ⟨rfl, (hbb.trans (hb3.mono hbb.size)).trans (hb4.mono (Nat.le_trans hbb.size hb3.size))⟩
end Go.Proofs.Ytieehofijndelab
