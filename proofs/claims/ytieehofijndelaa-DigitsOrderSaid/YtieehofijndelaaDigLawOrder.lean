/- Walk: the law on the order. -/
import Derived.Test.YtieehofijndelaaDigAwake
import Derived.Test.YtieehofijndelaaDigCmp2
import Derived.Test.YtieehofijndelaaDigOrdM
import Derived.Test.YtieehofijndelaaLawKit
namespace Go.Proofs.Ytieehofijndelaa
open Go.RowKit

theorem compareLit (a b : ByteArray) (x : Int) (h : cmpS a b = x) (ha : a.size ≤ maxLen) (hb : b.size ≤ maxLen) (w : World) :
    Calls Try.prog 11 #[.string a, .string b] w fun e w' => e = .returned (.int .i64 x) ∧ Below w.heap.size w w' := by
  subst h; exact compare_any a b w ha hb
theorem hasPrefixLit (a b : ByteArray) (p : Bool) (h : Lib.hasPrefix a.data.toList b.data.toList = p) (w : World) :
    Calls Try.prog 9 #[.string a, .string b] w fun e w' => e = .returned (.bool p) ∧ w = w' := by
  subst h; exact hasPrefix_any a b w

set_option maxHeartbeats 16000000 in
theorem walkOrderSmall (a b c : ByteArray) (w : World) (ha : a.size ≤ 200) (hb : b.size ≤ 200) (hc : c.size ≤ 200) :
    Calls Try.prog 4 #[.string a, .string b, .string c] w fun e w' => e = .returned (.bool true) ∧ Below w.heap.size w w' := by
  have m1 : a.size ≤ maxLen := by unfold maxLen; omega
  have m2 : b.size ≤ maxLen := by unfold maxLen; omega
  have m3 : c.size ≤ maxLen := by unfold maxLen; omega
  have hneg := cmp_neg a b
  have hle := cmp_trans_le (a := a) (b := b) (c := c)
  have hge := cmp_trans_ge (a := a) (b := b) (c := c)
  have heq := eq_iff_zero a b
  have hp0 := prefix_cmp (a := a) (b := b)
  obtain ⟨p, hp⟩ : ∃ p, Lib.hasPrefix a.data.toList b.data.toList = p := ⟨_, rfl⟩
  rw [hp] at hp0
  rcases cmp_values a b with hx | hx | hx <;> rcases cmp_values b c with hy | hy | hy <;> rcases cmp_values a c with hz | hz | hz <;>
    first
    | (exfalso; omega)
    | (rw [hx] at hneg heq hp0
       have H1 := Lib.hid (compareLit a b _ hx m1 m2)
       have H2 := Lib.hid (compareLit b c _ hy m2 m3)
       have H3 := Lib.hid (compareLit a c _ hz m1 m3)
       have H4 := Lib.hid (compareLit b a _ hneg m2 m1)
       have HE := Lib.hid heq
       clear hle hge hx hy hz hneg heq
       cases p
       all_goals
         first
         | (exfalso; simp at hp0; done)
         | (have H5 := Lib.hid (hasPrefixLit a b _ hp)
            have HP := Lib.hid hp
            clear hp hp0
            have heq' := HE.out
            simp only [decide_true, Int.reduceEq, Int.reduceNeg, decide_false] at heq'
            go_enter Try.func4, Try.ntmps4
            go_wp2_with fail
            refine (H1.out _).mono ?_
            rintro e w1 ⟨rfl, hb1⟩
            go_wp2_with fail
            refine (H2.out _).mono ?_
            rintro e w2 ⟨rfl, hb2⟩
            go_wp2_with fail
            refine (H3.out _).mono ?_
            rintro e w3 ⟨rfl, hb3⟩
            go_wp2_with fail
            refine (H4.out _).mono ?_
            rintro e w4 ⟨rfl, hb4⟩
            go_wp2_with fail
            refine (H5.out _).mono ?_
            rintro e w5 ⟨rfl, rfl⟩
            go_wp2_with fail
            refine (awake_any _).mono ?_
            rintro e w6 ⟨rfl, hb6⟩
            go_wp2
            go_ret
            have g2 : Below w.heap.size w w2 := hb1.trans (hb2.mono hb1.size)
            have g3 : Below w.heap.size w w3 := g2.trans (hb3.mono g2.size)
            have g4 : Below w.heap.size w w4 := g3.trans (hb4.mono g3.size)
            exact ⟨rfl, g4.trans (hb6.mono g4.size)⟩))

set_option maxHeartbeats 4000000 in
theorem walkDigitsOrder (a b c : ByteArray) (w : World) (ha : a.size ≤ maxLen) (hb : b.size ≤ maxLen) (hc : c.size ≤ maxLen) :
    Calls Try.prog 4 #[.string a, .string b, .string c] w fun e w' => e = .returned (.bool true) ∧ Below w.heap.size w w' := by
  by_cases hl : 200 < (a.size : Int)
  · unfold maxLen at ha hb hc
    go_enter Try.func4, Try.ntmps4
    go_wp2_with (go_at_call 6; refine (awake_any _).mono ?_; rintro e w1 ⟨rfl, hb1⟩)
    go_ret
    exact ⟨rfl, hb1⟩
  · by_cases hl2 : 200 < (b.size : Int)
    · unfold maxLen at ha hb hc
      go_enter Try.func4, Try.ntmps4
      go_wp2_with (go_at_call 6; refine (awake_any _).mono ?_; rintro e w1 ⟨rfl, hb1⟩)
      go_ret
      exact ⟨rfl, hb1⟩
    · by_cases hl3 : 200 < (c.size : Int)
      · unfold maxLen at ha hb hc
        go_enter Try.func4, Try.ntmps4
        go_wp2_with (go_at_call 6; refine (awake_any _).mono ?_; rintro e w1 ⟨rfl, hb1⟩)
        go_ret
        exact ⟨rfl, hb1⟩
      · exact walkOrderSmall a b c w (by omega) (by omega) (by omega)
end Go.Proofs.Ytieehofijndelaa
