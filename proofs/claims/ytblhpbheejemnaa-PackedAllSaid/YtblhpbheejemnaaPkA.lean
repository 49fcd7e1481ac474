/- Walks: the chapter's examples; short records. -/
import Derived.Test.YtblhpbheejemnaaPkF
namespace Go.Proofs.Ytblhpbheejemnaa
open Go.RowKit

theorem awP1 (w : World) : Calls Try.prog 9 #[.slice none 0 0, .int .i64 1234, .int .i64 3] w fun e w' => ∃ v, e = .returned (.tuple #[v, .int .i64 0]) ∧ Own w' w.heap.size v [0, 18, 52] ∧ Below w.heap.size w w' := by
  refine (put_any none 0 0 [] 1234 3 w (byt_nil w) (by decide) (by decide) (by decide)).mono fun e w' h => ?_
  obtain ⟨v, h1, h2, h3⟩ := h
  have hf : fitB 1234 3 = true := by decide
  rw [if_pos hf] at h1
  rw [if_pos hf] at h2
  exact ⟨v, h1, h2, h3⟩
theorem awP2 (w : World) : Calls Try.prog 9 #[.slice none 0 0, .int .i64 100, .int .i64 1] w fun e w' => ∃ v, e = .returned (.tuple #[v, .int .i64 6]) ∧ Below w.heap.size w w' := by
  refine (put_any none 0 0 [] 100 1 w (byt_nil w) (by decide) (by decide) (by decide)).mono fun e w' h => ?_
  obtain ⟨v, h1, _, h3⟩ := h
  have hf : fitB 100 1 = false := by decide
  rw [hf] at h1
  exact ⟨v, h1, h3⟩
theorem awP3 (w : World) : Calls Try.prog 11 #[.slice (some ⟨w.heap.size, 0, none⟩) 1 1] (w.alloc (.cells #[.int .u8 10] 5)) fun e w' => e = .returned (.tuple #[.int .i64 0, .int .i64 1]) ∧ w.alloc (.cells #[.int .u8 10] 5) = w' :=
  decimal_any _ 1 1 [10] _ (byt_lit w [10] (by intro x hx; simp at hx; omega) (by decide))
def rcA : Rc := ⟨1, 300, 3, ⟨#[49, 50, 51]⟩, ⟨#[]⟩, 0, 2, 0, 0, false, 0, false⟩
def LA : List Int := [1, 0, 0, 0, 3, 0, 48, 49, 35, 0, 0, 0, 0, 0, 0, 0, 0, 0, 0, 0, 0, 0, 0, 0, 0, 0, 0, 0, 0, 0, 0, 0, 0, 0, 0, 2, 0, 0, 0, 0, 0, 0, 0, 0, 138]
theorem encA : encP rcA = LA := by decide +kernel
theorem chkA : chkR rcA = 0 := by decide
theorem awN (w : World) : Calls Try.prog 14 #[.agg #[.int .i64 1, .int .i64 300, .int .i64 3, .string ⟨#[49, 50, 51]⟩, .string ⟨#[]⟩, .int .i64 0, .int .i64 2, .int .i64 0, .int .i64 0, .bool false, .int .i64 0, .bool false]] w fun e w' => ∃ g c, e = .returned (.tuple #[.slice (some ⟨g, 0, none⟩) 45 c, .int .i64 0]) ∧ Byt w' (some ⟨g, 0, none⟩) 45 c LA ∧ 45 ≤ c ∧ w'.cell? ⟨g, 35, none⟩ = some (.int .u8 2) ∧ w'.cell? ⟨g, 44, none⟩ = some (.int .u8 138) ∧ Below w.heap.size w w' := by
  refine (encode_any rcA (by decide) (by decide) w).mono fun e w' h => ?_
  obtain ⟨v, h1, h2, h3⟩ := h
  rw [chkA] at h1
  rw [if_pos chkA, encA] at h2
  obtain ⟨g, c, rfl, -, -, hc⟩ := own_some h2 (by decide)
  obtain ⟨A, m, q, hv, hm, hy⟩ := h2.bytm
  injection hv with hv1 hv2 hv3
  subst hv1 hv3
  have hm' : m = 45 := hm.out
  subst hm'
  exact ⟨g, c, h1, hy, hc, (own_cellk h2 (k := 35) (by decide)).1, (own_cellk h2 (k := 44) (by decide)).1, h3⟩
set_option maxRecDepth 100000 in
set_option maxHeartbeats 8000000 in
theorem alive_any (w : World) : Calls Try.prog 8 #[] w fun e w' => e = .returned (.bool true) ∧ Below w.heap.size w w' := by
  go_enter Try.func8, Try.ntmps8
  go_wp2_with (first
    | (go_at_call 9; (with_reducible refine (awP1 _).mono ?_); rintro e w1 ⟨v1, rfl, ho1, hb1⟩; obtain ⟨A1, m1, c1, rfl, hm1, y1⟩ := ho1.bytm; have HY1 := Lib.hid y1; have HB1 := Lib.hid hb1; clear ho1 hb1 y1)
    | (go_at_call 9; (with_reducible refine (awP2 _).mono ?_); rintro e w2 ⟨v2, rfl, hb2⟩; have HY1 := Lib.hid (HY1.out.below hb2); have HB2 := Lib.hid (HB1.out.trans (hb2.mono HB1.out.size)); clear hb2)
    | (go_at_call 11; (with_reducible refine (awP3 _).mono ?_); rintro e w3 ⟨rfl, h3⟩; have HY1 := Lib.hid (HY1.out.below (below_lit w2 (.cells #[.int .u8 10] 5))); have HB3 := Lib.hid (HB2.out.alloc HB2.out.size (.cells #[.int .u8 10] 5)); rw [h3] at HB3 HY1)
    | (go_at_call 14; (with_reducible refine (awN _).mono ?_); rintro e w5 ⟨g5, c5, rfl, y5, hc5, cx35, cx44, hb5⟩; have cv1 := byt_conv (HY1.out.below hb5); have cv5 := byt_conv (byt_take y5 15 (by decide)); rw [show strOfNums [0, 18, 52] = ⟨#[0, 18, 52]⟩ from rfl] at cv1; rw [show strOfNums (LA.take 15) = ⟨#[1, 0, 0, 0, 3, 0, 48, 49, 35, 0, 0, 0, 0, 0, 0]⟩ from rfl] at cv5; have HB5 := Lib.hid (HB3.out.trans (hb5.mono HB3.out.size)); clear hb5 y5))
  go_ret
  exact ⟨rfl, HB5.out⟩
/-- A record whose numbers are short. -/
def shR (r : Rc) : Bool := decide (r.sa.size ≤ 200) && decide (r.sb.size ≤ 200)
theorem shR_of {r : Rc} (h : shR r = true) : r.sa.size ≤ maxLen ∧ r.sb.size ≤ maxLen := by
  unfold shR at h
  rw [Bool.and_eq_true, decide_eq_true_eq, decide_eq_true_eq] at h
  unfold maxLen
  omega
theorem short_any (r : Rc) (w : World) : Calls Try.prog 13 #[.agg r.cells] w fun e w' => e = .returned (.bool (shR r)) ∧ Below w.heap.size w w' := by
  have hL0 : Below w.heap.size w (w.alloc (.cells r.cells 31)) := (Below.refl _ w).alloc (Nat.le_refl _) _
  obtain ⟨s0, s1, s2, sa, sb, s5, s6, s7, s8, b9, s10, b11⟩ := r
  have HL0 := Lib.hid hL0
  simp only [shR]
  unfold Rc.cells at hL0 HL0 ⊢
  clear hL0
  simp only at HL0 ⊢
  by_cases h1 : sa.size ≤ 200
  · have h1i : (sa.size : Int) ≤ 200 := by omega
    by_cases h2 : sb.size ≤ 200
    · have h2i : (sb.size : Int) ≤ 200 := by omega
      have HH := Lib.hid (And.intro h1 h2)
      clear h1 h2
      go_enter Try.func13, Try.ntmps13
      go_wp2
      go_ret
      exact ⟨ret_bool (by simp [HH.out.1, HH.out.2]), HL0.out⟩
    · have h2i : (200 : Int) < (sb.size : Int) := by omega
      have HH := Lib.hid (And.intro h1 h2)
      clear h1 h2
      go_enter Try.func13, Try.ntmps13
      go_wp2
      go_ret
      exact ⟨ret_bool (by simp [HH.out.1, HH.out.2]; try omega), HL0.out⟩
  · have h1i : (200 : Int) < (sa.size : Int) := by omega
    have HH := Lib.hid h1
    clear h1
    go_enter Try.func13, Try.ntmps13
    go_wp2
    go_ret
    exact ⟨ret_bool (by simp [HH.out]; try omega), HL0.out⟩
end Go.Proofs.Ytblhpbheejemnaa
