/- Walk: the chapter's examples hold. -/
import Derived.Test.YtflonakoagjmhaaZnAx
namespace Go.Proofs.Ytflonakoagjmhaa.Zn
open Go.RowKit Go.Lib Go.Shelf Go.Proofs.Ytflonakoagjmhaa Go.Maps

set_option maxRecDepth 100000 in
set_option maxHeartbeats 16000000 in
theorem awake_any (w : World) : Calls Try.prog 10 #[] w fun e w' => e = .returned (.bool true) ∧ Below w.heap.size w w' := by
  obtain ⟨L, hL⟩ : ∃ L, ((w.alloc (.cells #[.string ⟨#[52, 57]⟩, .string ⟨#[52, 57, 51, 48]⟩] 9)).alloc (.cells #[.string ⟨#[52, 57, 49, 53]⟩] 9)).alloc (.cells #[.string ⟨#[104, 111, 109, 101]⟩, .slice (some ⟨w.heap.size, 0, none⟩) 2 2, .string ⟨#[109, 111, 98, 105, 108, 101]⟩, .slice (some ⟨w.heap.size + 1, 0, none⟩) 1 1] 37) = L := ⟨_, rfl⟩
  have HL := Lib.hid (zs_lit w [⟨#[52, 57]⟩, ⟨#[52, 57, 51, 48]⟩] [⟨#[52, 57, 49, 53]⟩] ⟨#[104, 111, 109, 101]⟩ ⟨#[109, 111, 98, 105, 108, 101]⟩ (by decide) (by decide) L hL)
  obtain ⟨A0, hA0⟩ : ∃ a : Addr, (⟨w.heap.size + 1 + 1, 0, none⟩ : Addr) = a := ⟨_, rfl⟩
  rw [hA0] at HL
  have HZ : Hid (ZsR L (some A0) awl) := Lib.hid HL.out.1
  go_enter Try.func10, Try.ntmps10
  go_wp2_with (first
    | (go_at_call 16; (with_reducible refine (aw_f1 (some A0) _ HZ.out).mono ?_); rintro e w1 ⟨rfl, hb1⟩; have HB1 := Lib.hid hb1; clear hb1)
    | (go_at_call 16; (with_reducible refine (aw_f2 (some A0) _ (HZ.out.below HB1.out)).mono ?_); rintro e w2 ⟨rfl, hb2⟩; have HB2 := Lib.hid (HB1.out.trans (hb2.mono HB1.out.size)); clear hb2)
    | (go_at_call 16; (with_reducible refine (aw_f3 (some A0) _ (HZ.out.below HB2.out)).mono ?_); rintro e w3 ⟨rfl, hb3⟩; have HB3 := Lib.hid (HB2.out.trans (hb3.mono HB2.out.size)); clear hb3)
    | (go_at_call 21; (with_reducible refine (aw_min (some A0) _ (HZ.out.below HB3.out)).mono ?_); rintro e w4 ⟨Am, cm, rfl, hm4, hb4⟩; have HB4 := Lib.hid (HB3.out.trans (hb4.mono HB3.out.size)); obtain ⟨bm, om, Pm, cp, rfl, x0, x1, x2, -, -, x3, -⟩ := hm4 0 (by decide); obtain ⟨bp, op, rfl, x4, x5⟩ := x3 0 (by decide); have HM4 := Lib.hid (And.intro x0 (And.intro x1 (And.intro x2 (And.intro x4 x5)))); clear hb4 hm4 x0 x1 x2 x3 x4 x5; obtain ⟨L2, hL2⟩ : ∃ L, ((w4.alloc (.cells #[.string ⟨#[52, 57, 49, 53]⟩] 9)).alloc (.cells #[.string ⟨#[52, 57]⟩] 9)).alloc (.cells #[.string ⟨#[109, 111, 98, 105, 108, 101]⟩, .slice (some ⟨w4.heap.size, 0, none⟩) 1 1, .string ⟨#[104, 111, 109, 101]⟩, .slice (some ⟨w4.heap.size + 1, 0, none⟩) 1 1] 37) = L := ⟨_, rfl⟩; have HK := Lib.hid (zs_lit w4 [⟨#[52, 57, 49, 53]⟩] [⟨#[52, 57]⟩] ⟨#[109, 111, 98, 105, 108, 101]⟩ ⟨#[104, 111, 109, 101]⟩ (by decide) (by decide) L2 hL2); obtain ⟨A1, hA1⟩ : ∃ a : Addr, (⟨w4.heap.size + 1 + 1, 0, none⟩ : Addr) = a := ⟨_, rfl⟩; rw [hA1] at HK; have HKZ : Hid (ZsR L2 (some A1) awk) := Lib.hid HK.out.1; obtain ⟨L3, hL3⟩ : ∃ L, ((L2.alloc (.cells #[.string ⟨#[52, 57]⟩, .string ⟨#[52, 57, 51, 48]⟩, .string ⟨#[52, 57, 49, 53]⟩] 9)).alloc (.cells #[.string ⟨#[52, 57, 49, 53]⟩] 9)).alloc (.cells #[.string ⟨#[104, 111, 109, 101]⟩, .slice (some ⟨L2.heap.size, 0, none⟩) 3 3, .string ⟨#[109, 111, 98, 105, 108, 101]⟩, .slice (some ⟨L2.heap.size + 1, 0, none⟩) 1 1] 37) = L := ⟨_, rfl⟩; have HT := Lib.hid (zs_lit L2 [⟨#[52, 57]⟩, ⟨#[52, 57, 51, 48]⟩, ⟨#[52, 57, 49, 53]⟩] [⟨#[52, 57, 49, 53]⟩] ⟨#[104, 111, 109, 101]⟩ ⟨#[109, 111, 98, 105, 108, 101]⟩ (by decide) (by decide) L3 hL3); obtain ⟨A2, hA2⟩ : ∃ a : Addr, (⟨L2.heap.size + 1 + 1, 0, none⟩ : Addr) = a := ⟨_, rfl⟩; rw [hA2] at HT; have HTZ : Hid (ZsR L3 (some A2) awt) := Lib.hid HT.out.1)
    | (go_at_call 14; (with_reducible refine (aw_names (some A1) _ (HKZ.out.below HT.out.2.1)).mono ?_); rintro e w5 ⟨An, cn, rfl, hn5, hb5⟩; obtain ⟨bn, on, rfl, y0, y1⟩ := hn5 0 (by decide); have hw5 := HK.out.2.1.trans ((HT.out.2.1.trans (hb5.mono HT.out.2.1.size)).mono HK.out.2.1.size); have HC : Hid (∀ W, Below w5.heap.size w5 W → W.cell? ⟨bm, om, none⟩ = some (.string ⟨#[104, 111, 109, 101]⟩) ∧ W.cell? ⟨bm, om + 1, none⟩ = some (.slice (some ⟨bp, op, none⟩) 1 cp) ∧ W.cell? ⟨bp, op, none⟩ = some (.string ⟨#[52, 57]⟩) ∧ W.cell? ⟨bn, on, none⟩ = some (.string ⟨#[104, 111, 109, 101]⟩)) := Lib.hid (fun W hW => (by
        have hb := hw5.trans (hW.mono hw5.size)
        have e0 := (hb.cell (p := ⟨bm, om + 0 * 2, none⟩) HM4.out.1).trans HM4.out.2.1
        have e1 := (hb.cell (p := ⟨bm, om + 0 * 2 + 1, none⟩) HM4.out.1).trans HM4.out.2.2.1
        have e2 := (hb.cell (p := ⟨bp, op + 0, none⟩) HM4.out.2.2.2.1).trans HM4.out.2.2.2.2
        have e3 := (hW.cell (p := ⟨bn, on + 0, none⟩) y0).trans y1
        rw [Nat.zero_mul, Nat.add_zero] at e0 e1
        rw [Nat.add_zero] at e2 e3
        exact ⟨e0, e1, e2, e3⟩)); have HB5 := Lib.hid hb5; have HW5 := Lib.hid hw5; clear hb5 hn5 y0 y1 hw5; obtain ⟨c0, c1, c2, c3⟩ := HC.out w5 (Below.refl _ _)))
  have HE : Hid (∀ W, Below w5.heap.size w5 W → Calls Try.prog 18 #[.slice (some A0) 2 2, .slice (some A1) 2 2] W fun e w' => e = .returned (.bool true) ∧ Below W.heap.size W w') := Lib.hid (fun W hW => by
    have h1 := HW5.out.trans (hW.mono HW5.out.size)
    have h2 := HT.out.2.1.trans ((HB5.out.trans (hW.mono HB5.out.size)).mono HT.out.2.1.size)
    exact aw_equal _ _ W (HZ.out.below (HB4.out.trans (h1.mono HB4.out.size))) (HKZ.out.below h2))
  have HCK : Hid (∀ W, Below w5.heap.size w5 W → Calls Try.prog 11 #[.slice (some A2) 2 2] W fun e w' => e = .returned (.int .i64 10) ∧ Below W.heap.size W w') := Lib.hid (fun W hW => aw_check _ W (HTZ.out.below (HB5.out.trans (hW.mono HB5.out.size))))
  clear hL hA0 hL2 hA1 hL3 hA2
  go_wp2_with (first
      | (go_at_call 18; (with_reducible refine (HE.out _ (Below.refl _ _)).mono ?_); rintro e w6 ⟨rfl, hb6⟩; have HB6 := Lib.hid hb6; clear hb6 c0 c1 c2 c3; obtain ⟨c0, c1, c2, c3⟩ := HC.out w6 HB6.out)
      | (go_at_call 11; (with_reducible refine (HCK.out _ HB6.out).mono ?_); rintro e w7 ⟨rfl, hb7⟩; have HB7 := Lib.hid (HB6.out.trans (hb7.mono HB6.out.size)); clear hb7 c0 c1 c2 c3; obtain ⟨c0, c1, c2, c3⟩ := HC.out w7 HB7.out))
  go_ret
  exact ⟨rfl, HL.out.2.1.trans ((HB4.out.trans ((HW5.out.trans (HB7.out.mono HW5.out.size)).mono HB4.out.size)).mono HL.out.2.1.size)⟩
end Go.Proofs.Ytflonakoagjmhaa.Zn
