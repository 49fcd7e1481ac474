/- Walk: the laws' awake. -/
import Derived.Test.YtolgfkkjbefecaaCkE
namespace Go.Proofs.Ytolgfkkjbefecaa.Ck
open Go Go.Lib Go.RowKit Go.Proofs.Ytolgfkkjbefecaa Go.Maps

set_option maxRecDepth 100000 in
set_option maxHeartbeats 16000000 in
theorem awake_any (w : World) : Calls Try.prog 11 #[] w fun e w' => e = .returned (.bool true) ∧ Below w.heap.size w w' := by
  have HE1 := Lib.hid (fun (W : World) => expr_is aw1 (some ⟨W.heap.size, 0, none⟩) 1 2 2 _ (XA.lit2 W 1 60 3 0 ⟨#[]⟩ ⟨#[117, 110, 105, 116, 115]⟩ (by decide) (by decide)) rfl (Nat.le_refl _) (by decide) (by decide))
  have HE2 := Lib.hid (fun (W : World) => expr_is aw2 (some ⟨W.heap.size, 0, none⟩) 1 2 2 _ (XA.lit2 W 1 60 3 0 ⟨#[]⟩ ⟨#[122, 111, 110, 101]⟩ (by decide) (by decide)) rfl (Nat.le_refl _) (by decide) (by decide))
  have HS1 := Lib.hid (fun (W : World) => steps_is aw3 (some ⟨W.heap.size, 0, none⟩) 2 2 _ (SpR.lit2 W ⟨60, 60, 1000⟩ ⟨0, 1, 20⟩) rfl (Nat.le_refl _) (by decide))
  have HS2 := Lib.hid (fun (W : World) => steps_is aw4 (some ⟨W.heap.size, 0, none⟩) 3 3 _ (SpR.lit3 W ⟨60, 1, 0⟩ ⟨50, 1, 0⟩ ⟨0, 1, 0⟩) rfl (Nat.le_refl _) (by decide))
  have HT := Lib.hid (fun (W : World) => tariff_name ⟨#[65]⟩ 0 false (.slice none 0 0) (.slice none 0 0) (.slice none 0 0) (.slice none 0 0) W (by decide +kernel) (by decide))
  simp only at HS1 HS2
  go_enter Try.func11, Try.ntmps11
  go_upto_region 2 with fail
  obtain ⟨x, hx⟩ : ∃ x, w.heap.size = x := ⟨_, rfl⟩
  have hX := Blk.new w 24 #[.int .i64 3, .int .i64 0, .string ⟨#[117, 110, 105, 116, 115]⟩, .slice none 0 0]
  have hY := Blk.new (w.alloc (.cells #[.int .i64 3, .int .i64 0, .string ⟨#[117, 110, 105, 116, 115]⟩, .slice none 0 0] 24)) 24 #[.int .i64 1, .int .i64 60, .string ⟨#[]⟩, .slice none 0 0]
  have hB := ((below_one w (.cells #[.int .i64 3, .int .i64 0, .string ⟨#[117, 110, 105, 116, 115]⟩, .slice none 0 0] 24)).alloc (by simp) (.cells #[.int .i64 1, .int .i64 60, .string ⟨#[]⟩, .slice none 0 0] 24))
  have hX2 := hX.alloc (.cells #[.int .i64 1, .int .i64 60, .string ⟨#[]⟩, .slice none 0 0] 24)
  rw [show (w.alloc (.cells #[.int .i64 3, .int .i64 0, .string ⟨#[117, 110, 105, 116, 115]⟩, .slice none 0 0] 24)).heap.size = x + 1 by simp [hx]] at hY
  rw [hx] at hX2
  rw [hx]
  clear hX
  generalize (w.alloc (.cells #[.int .i64 3, .int .i64 0, .string ⟨#[117, 110, 105, 116, 115]⟩, .slice none 0 0] 24)).alloc (.cells #[.int .i64 1, .int .i64 60, .string ⟨#[]⟩, .slice none 0 0] 24) = W1 at hY hB hX2 ⊢
  have HB := Lib.hid hB
  have HX := Lib.hid hX2
  have HY := Lib.hid hY
  obtain ⟨a0, a1, a2, a3⟩ := four hX2
  obtain ⟨b0, b1, b2, b3⟩ := four hY
  clear hX2 hY hB
  go_wp2_with (first
    | (go_at_call 12; (with_reducible refine (HE1.out _).mono ?_); rintro e w3 ⟨rfl, hb3⟩; have HB3 : Hid (Below W1.heap.size W1 w3) := Lib.hid ((below_one W1 _).trans (hb3.mono (by simp))); obtain ⟨d0, d1, d2, d3⟩ := four (HY.out.below HB3.out HY.out.lt); clear hb3 a0 a1 a2 a3 b0 b1 b2 b3)
    | (go_at_call 12; (with_reducible refine (HE2.out _).mono ?_); rintro e w4 ⟨rfl, hb4⟩; have HB4 : Hid (Below W1.heap.size W1 w4) := Lib.hid (HB3.out.trans (((below_one w3 _).trans (hb4.mono (by simp))).mono HB3.out.size)); clear hb4 d0 d1 d2 d3)
    | (go_at_call 14; (with_reducible refine (HS1.out _).mono ?_); rintro e w5 ⟨rfl, hb5⟩; have HB5 : Hid (Below W1.heap.size W1 w5) := Lib.hid (HB4.out.trans (((below_one w4 _).trans (hb5.mono (by simp))).mono HB4.out.size)); clear hb5)
    | (go_at_call 14; (with_reducible refine (HS2.out _).mono ?_); rintro e w6 ⟨rfl, hb6⟩; have HB6 : Hid (Below W1.heap.size W1 w6) := Lib.hid (HB5.out.trans (((below_one w5 _).trans (hb6.mono (by simp))).mono HB5.out.size)); clear hb6)
    | (go_at_call 17; (with_reducible refine (HT.out _).mono ?_); rintro e w7 ⟨rfl, hb7⟩; have HB7 : Hid (Below W1.heap.size W1 w7) := Lib.hid (HB6.out.trans (hb7.mono HB6.out.size)); clear hb7))
  go_ret
  exact ⟨rfl, HB.out.trans (HB7.out.mono HB.out.size)⟩
end Go.Proofs.Ytolgfkkjbefecaa.Ck
