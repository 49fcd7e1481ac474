/- Walks: the chapter's example of a product; lists are compared; the example of a text. -/
import Derived.Test.YtopngdjhnljmfaaDoorAmtMag
import Derived.Test.YtopngdjhnljmfaaDoorAmtTxt
import Derived.Test.YtopngdjhnljmfaaDoorAmtPar2
import Derived.Test.YtopngdjhnljmfaaDoorShelf
namespace Go.Proofs.YtopngdjhnljmfaaDoor
open Go.RowKit

theorem mulLit (x y h l : Nat) (hx : x < 18446744073709551616) (hy : y < 18446744073709551616) (hh : x * y / 18446744073709551616 = h) (hl : x * y % 18446744073709551616 = l) (w : World) :
    Calls Tryd.prog 17 #[.int .u64 (x : Int), .int .u64 (y : Int)] w fun e w' => e = .returned (.tuple #[.int .u64 (h : Int), .int .u64 (l : Int)]) ∧ w = w' :=
  (Tryd.bits_Mul64 x y hx hy w).mono fun e w' ⟨he, hw⟩ => ⟨by rw [he, hh, hl], hw.symm⟩

set_option maxHeartbeats 1000000 in
theorem div_zero (lo y : Int) (h0 : 0 ≤ lo) (h1 : lo ≤ 18446744073709551615) (hy : 0 < y) (hy2 : y ≤ 18446744073709551615) (w : World) :
    Calls Tryd.prog 18 #[.int .u64 0, .int .u64 lo, .int .u64 y] w fun e w' => e = .returned (.tuple #[.int .u64 (lo / y), .int .u64 (lo % y)]) ∧ ∃ n, w' = w.drewN n := by
  have hb1 : (y == 0) = false := by simp; omega
  have hb2 : ¬ y ≤ 0 := by omega
  go_enter Tryd.func18, Tryd.ntmps18
  go_wp2
  go_quiet (fail)
  go_wp2
  go_ret2
  exact ⟨rfl, _, rfl⟩

set_option maxHeartbeats 1000000 in
theorem awScale (w : World) :
    Calls Tryd.prog 11 #[.int .i64 (-45), .int .i64 1000, .int .i64 10000] w fun e w' => e = .returned (.tuple #[.int .i64 (-5), .int .i64 0]) ∧ ∃ n, w' = w.drewN n := by
  have hv : okA (-45) = true := rfl
  have h1 : okU 1000 = true := rfl
  have h2 : okU 10000 = true := rfl
  have hm : mag (-45) = 45 := rfl
  have hM := fun wx => mulLit 45 1000 0 45000 (by decide) (by decide) (by decide) (by decide) wx
  have HM := Lib.hid hM; clear hM
  have hD := fun wx => div_zero 45000 10000 (by decide) (by decide) (by decide) (by decide) wx
  have HD := Lib.hid hD; clear hD
  go_enter Tryd.func11, Tryd.ntmps11
  go_wp2_with (first
    | (go_at_call 21; refine (valid_any _ _).mono ?_; rintro e w1 ⟨rfl, rfl⟩)
    | (go_at_call 22; refine (validUnits_any _ _).mono ?_; rintro e w1 ⟨rfl, rfl⟩)
    | (go_at_call 16; refine (magnitude_any _ _ (by decide) (by decide)).mono ?_; rintro e w1 ⟨rfl, rfl⟩)
    | (go_at_call 17; refine (HM.out _).mono ?_; rintro e w1 ⟨rfl, rfl⟩)
    | (go_at_call 18; refine (HD.out _).mono ?_; rintro e w1 ⟨rfl, n, rfl⟩))
  go_ret2
  exact ⟨rfl, _, rfl⟩

theorem awParse (w : World) :
    Calls Tryd.prog 12 #[.string ⟨#[48, 49, 50, 46, 48, 52, 53, 48]⟩] w fun e w' => e = .returned (.tuple #[.int .i64 0, .int .i64 1]) ∧ ∃ n, w' = w.drewN n :=
  parse_bad ⟨#[48, 49, 50, 46, 48, 52, 53, 48]⟩ w (by decide) (by decide)

theorem lead_one {m : Int} {f g : Nat} (h : Lead m f) (h2 : Lead m g) : f = g := by
  rcases Nat.lt_trichotomy f g with hlt | rfl | hlt
  · exact absurd (h2.2.1 f hlt) (h.2.2 (by have := h2.1; omega))
  · rfl
  · exact absurd (h.2.1 g hlt) (h2.2.2 (by have := h.1; omega))
theorem lead_ex : Lead 120450 13 := by
  refine ⟨by decide, ?_, fun _ => by decide⟩
  have key : ∀ i : Fin 13, dg 120450 i.val = 0 := by decide
  exact fun i hi => key ⟨i, hi⟩
theorem awText (w : World) (hP : Pows w) (hz : 0 < w.heap.size) :
    Calls Tryd.prog 13 #[.int .i64 120450] w fun e w' => e = .returned (.string ⟨#[49, 50, 46, 48, 52, 53, 48]⟩) ∧ Below w.heap.size w w' := by
  refine (text_any 120450 w (by decide) (by decide) hP hz).mono fun e w' ⟨f, hl, he, hb⟩ => ⟨he.trans ?_, hb⟩
  have : f = 13 := lead_one (m := mag 120450) hl lead_ex
  subst this
  exact ret_str (by decide)

set_option maxHeartbeats 1000000 in
theorem same_any (A B : Option Addr) (n m c d : Nat) (xs ys : List Int) (w : World) (hA : Ints w A n xs) (hB : Ints w B m ys) (hn : n ≤ maxLen) (hm : m ≤ maxLen) :
    Calls Tryd.prog 8 #[.slice A n c, .slice B m d] w fun e w' => e = .returned (.bool (decide (xs = ys))) ∧ Below w.heap.size w w' := by
  unfold maxLen at hn hm
  by_cases hnm : n = m
  · subst hnm
    have hb0 : ((n : Int) != (n : Int)) = false := by simp
    go_enter Tryd.func8, Tryd.ntmps8
    go_wp2
    go_loopw [5] (fun i wr => ∃ k : Nat, k ≤ n ∧ i = .int .i64 k ∧ Below w.heap.size w wr ∧ Hid (∀ j, j < k → xs[j]?.getD 0 = ys[j]?.getD 0)) (fun i _ => n - (intOf i).toNat)
    case atStart => exact ⟨0, by omega, rfl, Below.refl _ _, Lib.hid fun j hj => absurd hj (by omega)⟩
    case round =>
      obtain ⟨k, hk, rfl, hb, HJ⟩ := hrel
      by_cases hlt : k < n
      · obtain ⟨b, off, rfl, hbl, hc⟩ := (hA.below hb).2.2 k hlt
        obtain ⟨b2, off2, rfl, hbl2, hc2⟩ := (hB.below hb).2.2 k hlt
        have hlt' : (k : Int) < n := by omega
        have HA := Lib.hid hA; have HB := Lib.hid hB
        clear hA hB
        obtain ⟨x, hx⟩ : ∃ x, xs[k]?.getD 0 = x := ⟨_, rfl⟩
        obtain ⟨y, hy⟩ : ∃ y, ys[k]?.getD 0 = y := ⟨_, rfl⟩
        rw [hx] at hc
        rw [hy] at hc2
        by_cases hxy : x = y
        · have hbx : (x != y) = false := by simpa using hxy
          have HX : Hid (xs[k]?.getD 0 = ys[k]?.getD 0) := Lib.hid (by rw [hx, hy, hxy])
          clear hx hy hxy
          go_wp2
          go_quiet (fail)
          go_wp2
          go_roundw
          case rel =>
            refine ⟨k + 1, by omega, by go_num, below_drewN hb _, Lib.hid fun j hj => ?_⟩
            by_cases h : j = k
            · subst h; exact HX.out
            · exact HJ.out j (by omega)
          case measure => simp [intOf]; omega
        · have hbx : (x != y) = true := by simpa using hxy
          have HF : Hid (decide (xs = ys) = false) := Lib.hid (by
            simp only [decide_eq_false_iff_not]
            intro h; subst h; exact hxy (hx.symm.trans hy))
          clear hx hy hxy
          go_wp2
          go_quiet (fail)
          go_wp2
          go_ret
          exact ⟨ret_bool HF.out.symm, below_drewN hb _⟩
      · obtain rfl : k = n := by omega
        have HF : Hid (decide (xs = ys) = true) := Lib.hid (by
          simp only [decide_eq_true_eq]
          apply List.ext_getElem
          · rw [hA.1, hB.1]
          · intro i h1 h2
            have := HJ.out i (by rw [← hA.1]; exact h1)
            rw [List.getElem?_eq_getElem h1, List.getElem?_eq_getElem h2] at this
            exact this)
        go_wp2
        go_ret
        exact ⟨ret_bool HF.out.symm, hb⟩
  · have hb0 : ((n : Int) != (m : Int)) = true := by simp; omega
    have HF : Hid (decide (xs = ys) = false) := Lib.hid (by
      simp only [decide_eq_false_iff_not]
      intro h; subst h; exact hnm (hA.1.symm.trans hB.1))
    go_enter Tryd.func8, Tryd.ntmps8
    go_wp2
    go_ret
    exact ⟨ret_bool HF.out.symm, Below.refl _ _⟩
end Go.Proofs.YtopngdjhnljmfaaDoor
