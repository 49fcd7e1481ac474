/- Walk of the law TaggedEncodes. -/
import Derived.Test.YtinnmnhaeejfdaaRows
import Derived.Test.YtinnmnhaeejfdaaTgREn
import Derived.Test.YtinnmnhaeejfdaaTgAwk
import Derived.Test.YtinnmnhaeejfdaaTgArg
namespace Go.Proofs.Ytinnmnhaeejfdaa
open Go.RowKit

theorem short_any (r : Rc) (w : World) : Calls Try.prog 16 #[.agg r.cells] w fun e w' => e = .returned (.bool (decide (r.sa.size ≤ 200) && decide (r.sb.size ≤ 200))) ∧ Below w.heap.size w w' := by
  obtain ⟨L, hL, hL0, hx, hLs⟩ := rec_world w r
  obtain ⟨-, -, -, k3, k4, -⟩ := hx.cells
  have HL0 := Lib.hid hL0
  unfold Rc.cells at hL ⊢
  clear hL0 hx hLs
  by_cases h1 : r.sa.size ≤ 200
  · have h1i : (r.sa.size : Int) ≤ 200 := by omega
    by_cases h2 : r.sb.size ≤ 200
    · have h2i : (r.sb.size : Int) ≤ 200 := by omega
      have HH := Lib.hid (And.intro h1 h2)
      clear h1 h2
      go_enter Try.func16, Try.ntmps16
      go_wp2
      go_ret
      exact ⟨ret_bool (by simp [HH.out.1, HH.out.2]), HL0.out⟩
    · have h2i : (200 : Int) < (r.sb.size : Int) := by omega
      have HH := Lib.hid (And.intro h1 h2)
      clear h1 h2
      go_enter Try.func16, Try.ntmps16
      go_wp2
      go_ret
      exact ⟨ret_bool (by simp [HH.out.1, HH.out.2]; try omega), HL0.out⟩
  · have h1i : (200 : Int) < (r.sa.size : Int) := by omega
    have HH := Lib.hid h1
    clear h1
    go_enter Try.func16, Try.ntmps16
    go_wp2
    go_ret
    exact ⟨ret_bool (by simp [HH.out]; try omega), HL0.out⟩
set_option maxRecDepth 100000 in
set_option maxHeartbeats 8000000 in
theorem encGood (r : Rc) (ha : r.sa.size ≤ 200) (hb : r.sb.size ≤ 200) (W : World) :
    Calls Try.prog 5 #[.agg r.cells] W fun e w' => e = .returned (.bool true) ∧ Below W.heap.size W w' := by
  have HALV := Lib.hid alive_any
  obtain ⟨L, hL, hL0, hx, hLs⟩ := rec_world W r
  obtain ⟨k0, k1, k2, k3, k4, k5, k6, k7, k8, k9, k10, k11⟩ := hx.cells
  have hsh := short_any r
  rw [decide_eq_true ha, decide_eq_true hb] at hsh
  have hen := encode_any r (by unfold maxLen; omega) (by unfold maxLen; omega)
  have hre := refEncode_any r (by unfold maxLen; omega) (by unfold maxLen; omega)
  obtain ⟨B, hB⟩ : ∃ B, (if chkR r = 0 then encB r else []) = B := ⟨_, rfl⟩
  obtain ⟨x, hx0⟩ : ∃ x, chkR r = x := ⟨_, rfl⟩
  rw [hB, hx0] at hen hre
  have HC : Hid (∀ w', Below L.heap.size L w' → _) := Lib.hid (fun w' (h : Below L.heap.size L w') => (hx.below h (by omega)).cells)
  unfold Rc.cells at hL hsh hen hre ⊢
  have HSH := Lib.hid hsh; have HEN := Lib.hid hen; have HRE := Lib.hid hre; have HL0 := Lib.hid hL0
  clear hx hL0 hLs hsh hen hre hB hx0 ha hb
  go_enter Try.func5, Try.ntmps5
  go_wp2_with (first
    | (go_at_call 16; refine (HSH.out _).mono ?_; rintro e w0 ⟨rfl, hb0⟩; have HB0 := Lib.hid hb0; obtain ⟨k0, k1, k2, k3, k4, k5, k6, k7, k8, k9, k10, k11⟩ := HC.out _ hb0; clear hb0)
    | (go_at_call 17; refine (HEN.out _).mono ?_; rintro e w1 ⟨v1, rfl, ho1, hb1⟩; have HB1 := Lib.hid (HB0.out.trans (hb1.mono HB0.out.size)); obtain ⟨A1, m1, c1, rfl, hm1, y1⟩ := ho1.bytm; have HY1 := Lib.hid y1; obtain ⟨k0, k1, k2, k3, k4, k5, k6, k7, k8, k9, k10, k11⟩ := HC.out _ HB1.out; clear ho1 hb1 hm1 y1)
    | (go_at_call 18; refine (HRE.out _).mono ?_; rintro e w2 ⟨v2, rfl, ho2, hb2⟩; have HB2 := Lib.hid (HB1.out.trans (hb2.mono HB1.out.size)); obtain ⟨A2, m2, c2, rfl, hm2, y2⟩ := ho2.bytm; have cv1 := byt_conv (HY1.out.below hb2); have cv2 := byt_conv y2; obtain ⟨S, hS⟩ : ∃ S, strOfNums B = S := ⟨_, rfl⟩; rw [hS] at cv1 cv2; clear ho2 hb2 hm2 y2 hS)
    | (go_at_call 10; refine (HALV.out _).mono ?_; rintro e w9 ⟨rfl, hb9⟩))
  go_ret
  exact ⟨rfl, HL0.out.trans ((HB2.out.trans (hb9.mono HB2.out.size)).mono HL0.out.size)⟩
set_option maxRecDepth 100000 in
set_option maxHeartbeats 4000000 in
theorem walkTaggedEncodes (r : Rc) (W : World) (hr : r.Nums) :
    Calls Try.prog 5 #[.agg r.cells] W fun e w' => e = .returned (.bool true) ∧ Below W.heap.size W w' := by
  by_cases hg : r.sa.size ≤ 200 ∧ r.sb.size ≤ 200
  · exact encGood r hg.1 hg.2 W
  · have HALV := Lib.hid alive_any
    have hsh := short_any r
    have hf : (decide (r.sa.size ≤ 200) && decide (r.sb.size ≤ 200)) = false := by
      rw [Bool.eq_false_iff]
      intro h
      simp only [Bool.and_eq_true, decide_eq_true_eq] at h
      exact hg h
    rw [hf] at hsh
    obtain ⟨L, hL, hL0, hx, hLs⟩ := rec_world W r
    obtain ⟨k0, k1, k2, k3, k4, k5, k6, k7, k8, k9, k10, k11⟩ := hx.cells
    unfold Rc.cells at hL hsh ⊢
    have HSH := Lib.hid hsh; have HL0 := Lib.hid hL0
    clear hx hL0 hLs hsh hf hg hr
    go_enter Try.func5, Try.ntmps5
    go_wp2_with (first
      | (go_at_call 16; refine (HSH.out _).mono ?_; rintro e w0 ⟨rfl, hb0⟩; have HB0 := Lib.hid hb0; clear hb0)
      | (go_at_call 10; refine (HALV.out _).mono ?_; rintro e w9 ⟨rfl, hb9⟩))
    go_ret
    exact ⟨rfl, HL0.out.trans ((HB0.out.trans (hb9.mono HB0.out.size)).mono HL0.out.size)⟩
end Go.Proofs.Ytinnmnhaeejfdaa
