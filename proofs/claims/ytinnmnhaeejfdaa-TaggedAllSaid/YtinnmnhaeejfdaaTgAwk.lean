/- Walk: the chapter's examples. -/
import Derived.Test.YtinnmnhaeejfdaaTgEnc
import Derived.Test.YtinnmnhaeejfdaaTgBld
import Derived.Test.YtinnmnhaeejfdaaTgElm
namespace Go.Proofs.Ytinnmnhaeejfdaa
open Go.RowKit

theorem els_lit {W : World} {B : Option Addr} {m d : Nat} {t : Int} {l : List Int} {ty : TypeId} (hB : Byt W B m d l) :
    Els (W.alloc (.cells #[.int .i64 t, .slice B m d] ty)) (some ⟨W.heap.size, 0, none⟩) 1 [(t, l)] none := by
  refine ⟨rfl, fun k e hk => ?_⟩
  obtain rfl : k = 0 := by
    cases k with
    | zero => rfl
    | succ k => simp at hk
  obtain rfl : (t, l) = e := by simpa using hk
  have h' := heap_alloc_new W (.cells #[.int .i64 t, .slice B m d] ty)
  refine ⟨W.heap.size, 0, B, m, d, rfl, by simp, by simp, ?_, ?_, hB.below (below_lit W _), by simp⟩
  · simp only [World.cell?, h']; rfl
  · simp only [World.cell?, h']; rfl
theorem els_two {W : World} {t s : Int} {ty : TypeId} :
    Els (W.alloc (.cells #[.int .i64 t, .slice none 0 0, .int .i64 s, .slice none 0 0] ty)) (some ⟨W.heap.size, 0, none⟩) 2 [(t, []), (s, [])] none := by
  refine ⟨rfl, fun k e hk => ?_⟩
  have h' := heap_alloc_new W (.cells #[.int .i64 t, .slice none 0 0, .int .i64 s, .slice none 0 0] ty)
  match k, hk with
  | 0, hk =>
    obtain rfl : (t, []) = e := by simpa using hk
    refine ⟨W.heap.size, 0, none, 0, 0, rfl, by simp, by simp, ?_, ?_, byt_nil _, by simp⟩ <;> (simp only [World.cell?, h']; rfl)
  | 1, hk =>
    obtain rfl : (s, []) = e := by simpa using hk
    refine ⟨W.heap.size, 0, none, 0, 0, rfl, by simp, by simp, ?_, ?_, byt_nil _, by simp⟩ <;> (simp only [World.cell?, h']; rfl)
  | k + 2, hk => simp at hk
theorem awB1 (w : World) : Calls Try.prog 11 #[.slice (some ⟨w.heap.size + 1, 0, none⟩) 1 1] ((w.alloc (.cells #[.int .u8 1, .int .u8 2] 5)).alloc (.cells #[.int .i64 5, .slice (some ⟨w.heap.size, 0, none⟩) 2 2] 47)) fun e w' => ∃ v, e = .returned (.tuple #[v, .int .i64 0]) ∧ Own w' w.heap.size v [5, 2, 1, 2] ∧ Below w.heap.size w w' := by
  have hB := byt_lit w [1, 2] (by intro x hx; simp at hx; omega) (by decide)
  have hE := els_lit (t := 5) (ty := 47) hB
  have hs : (w.alloc (.cells (C8 [1, 2]).toArray 5)).heap.size = w.heap.size + 1 := World.size_alloc _ _
  rw [hs] at hE
  refine (build_any hE (by omega)).mono fun e w' h => ?_
  obtain ⟨h1, hb⟩ := h
  rw [if_pos (by decide)] at h1
  obtain ⟨v, rfl, ho⟩ := h1
  have hw : Below w.heap.size w ((w.alloc (.cells #[.int .u8 1, .int .u8 2] 5)).alloc (.cells #[.int .i64 5, .slice (some ⟨w.heap.size, 0, none⟩) 2 2] 47)) := (below_lit w _).alloc (by simp) _
  exact ⟨v, rfl, Own.mono ho (by rw [heap_size_alloc2]; omega), hw.trans (hb.mono (by rw [heap_size_alloc2]; omega))⟩
theorem awB2 (w : World) : Calls Try.prog 11 #[.slice (some ⟨w.heap.size, 0, none⟩) 2 2] (w.alloc (.cells #[.int .i64 5, .slice none 0 0, .int .i64 5, .slice none 0 0] 47)) fun e w' => e = .returned (.tuple #[.slice none 0 0, .int .i64 9]) ∧ Below w.heap.size w w' := by
  refine (build_any els_two (by omega)).mono fun e w' h => ?_
  obtain ⟨h1, hb⟩ := h
  rw [if_neg (by decide)] at h1
  exact ⟨h1, (below_lit w _).trans (hb.mono (by simp))⟩
theorem awE (w : World) (l : List Int) (er : Int) (hr : ∀ x ∈ l, 0 ≤ x ∧ x ≤ 255) (hn : l.length ≤ 100) (he : (elmR l).2 = er) (h0 : er ≠ 0) : Calls Try.prog 13 #[.slice (some ⟨w.heap.size, 0, none⟩) l.length l.length] (w.alloc (.cells (C8 l).toArray 5)) fun e w' => e = .returned (.tuple #[.slice none 0 0, .int .i64 er]) ∧ Below w.heap.size w w' := by
  subst he
  refine (elements_any (byt_lit w l hr (by unfold maxLen; omega)) (by omega)).mono fun e w' h => ?_
  obtain ⟨h1, hb⟩ := h
  rw [if_neg h0] at h1
  exact ⟨h1, (below_lit w _).trans (hb.mono (by simp))⟩
theorem awE1 (w : World) : Calls Try.prog 13 #[.slice (some ⟨w.heap.size, 0, none⟩) 2 2] (w.alloc (.cells #[.int .u8 0, .int .u8 0] 5)) fun e w' => e = .returned (.tuple #[.slice none 0 0, .int .i64 6]) ∧ Below w.heap.size w w' :=
  awE w [0, 0] 6 (by intro x hx; simp at hx; omega) (by decide) (by decide) (by decide)
theorem awE2 (w : World) : Calls Try.prog 13 #[.slice (some ⟨w.heap.size, 0, none⟩) 3 3] (w.alloc (.cells #[.int .u8 1, .int .u8 2, .int .u8 0] 5)) fun e w' => e = .returned (.tuple #[.slice none 0 0, .int .i64 2]) ∧ Below w.heap.size w w' :=
  awE w [1, 2, 0] 2 (by intro x hx; simp at hx; omega) (by decide) (by decide) (by decide)
def rcA : Rc := ⟨1, 300, 3, ⟨#[49, 50, 51]⟩, ⟨#[]⟩, 0, 2, 0, 0, false, 0, false⟩
theorem shE_one {n : Nat} (h0 : n ≠ 0) (h : n < 256) : shE n = [(n : Int)] := by
  rw [shE_pos h0, show n / 256 = 0 by omega, shE_zero, show n % 256 = n by omega]; rfl
theorem fldA : fldE rcA = [(1, [3]), (2, [1]), (3, [1, 44]), (4, [18, 63]), (7, [2])] := by
  have e3 : shE 3 = [3] := shE_one (by omega) (by omega)
  have e1 : shE 1 = [1] := shE_one (by omega) (by omega)
  have e2 : shE 2 = [2] := shE_one (by omega) (by omega)
  have e300 : shE 300 = [1, 44] := by rw [shE_pos (by omega), show 300 / 256 = 1 by omega, e1]; rfl
  have ea : pkE ⟨#[49, 50, 51]⟩ = [18, 63] := by decide
  have eb : pkE ⟨#[]⟩ = [] := by decide
  show fltE 0 [[], shE 3, shE 1, shE 300, pkE ⟨#[49, 50, 51]⟩, pkE ⟨#[]⟩, shE 0, shE 2, shE 0, shE 0, shE 0, shE 0] = _
  rw [e3, e1, e300, ea, eb, e2, shE_zero]
  rfl
theorem encA : encB rcA = [0, 17, 1, 1, 3, 2, 1, 1, 3, 2, 1, 44, 4, 2, 18, 63, 7, 1, 2] := by
  unfold encB
  rw [fldA]; rfl
theorem chkA : chkR rcA = 0 := by decide
theorem awN (w : World) : Calls Try.prog 17 #[.agg #[.int .i64 1, .int .i64 300, .int .i64 3, .string ⟨#[49, 50, 51]⟩, .string ⟨#[]⟩, .int .i64 0, .int .i64 2, .int .i64 0, .int .i64 0, .bool false, .int .i64 0, .bool false]] w fun e w' => ∃ v, e = .returned (.tuple #[v, .int .i64 0]) ∧ Own w' w.heap.size v [0, 17, 1, 1, 3, 2, 1, 1, 3, 2, 1, 44, 4, 2, 18, 63, 7, 1, 2] ∧ Below w.heap.size w w' := by
  have h := encode_ok rcA chkA w
  rw [encA] at h
  exact h
set_option maxRecDepth 100000 in
set_option maxHeartbeats 8000000 in
theorem alive_any (w : World) : Calls Try.prog 10 #[] w fun e w' => e = .returned (.bool true) ∧ Below w.heap.size w w' := by
  go_enter Try.func10, Try.ntmps10
  go_wp2_with (first
    | (go_at_call 11; (with_reducible refine (awB1 _).mono ?_); rintro e w1 ⟨v1, rfl, ho1, hb1⟩; obtain ⟨A1, m1, c1, rfl, hm1, y1⟩ := ho1.bytm; have cv1 := byt_conv y1; have HY1 := Lib.hid y1; have HB1 := Lib.hid hb1; clear ho1 hb1 y1 cv1)
    | (go_at_call 11; (with_reducible refine (awB2 _).mono ?_); rintro e w2 ⟨rfl, hb2⟩; have HY1 := Lib.hid (HY1.out.below hb2); have HB2 := Lib.hid (HB1.out.trans (hb2.mono HB1.out.size)); clear hb2)
    | (go_at_call 13; (with_reducible refine (awE1 _).mono ?_); rintro e w3 ⟨rfl, hb3⟩; have HY1 := Lib.hid (HY1.out.below hb3); have HB3 := Lib.hid (HB2.out.trans (hb3.mono HB2.out.size)); clear hb3)
    | (go_at_call 13; (with_reducible refine (awE2 _).mono ?_); rintro e w4 ⟨rfl, hb4⟩; have HY1 := Lib.hid (HY1.out.below hb4); have HB4 := Lib.hid (HB3.out.trans (hb4.mono HB3.out.size)); clear hb4)
    | (go_at_call 17; (with_reducible refine (awN _).mono ?_); rintro e w5 ⟨v5, rfl, ho5, hb5⟩; obtain ⟨A5, m5, c5, rfl, hm5, y5⟩ := ho5.bytm; have cv1 := byt_conv (HY1.out.below hb5); have cv5 := byt_conv y5; rw [show strOfNums [5, 2, 1, 2] = ⟨#[5, 2, 1, 2]⟩ from rfl] at cv1; rw [show strOfNums [0, 17, 1, 1, 3, 2, 1, 1, 3, 2, 1, 44, 4, 2, 18, 63, 7, 1, 2] = ⟨#[0, 17, 1, 1, 3, 2, 1, 1, 3, 2, 1, 44, 4, 2, 18, 63, 7, 1, 2]⟩ from rfl] at cv5; have HB5 := Lib.hid (HB4.out.trans (hb5.mono HB4.out.size)); clear ho5 hb5 y5))
  go_ret
  exact ⟨rfl, HB5.out⟩
end Go.Proofs.Ytinnmnhaeejfdaa
