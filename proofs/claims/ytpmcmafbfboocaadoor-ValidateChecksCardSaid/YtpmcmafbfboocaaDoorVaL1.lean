/- Walk of the law on single records, from awake's contract. -/
import Derived.Test.YtpmcmafbfboocaaDoorVaF
import Derived.Test.YtpmcmafbfboocaaDoorVaL4
import Derived.Test.YtpmcmafbfboocaaDoorVaR
namespace Go.Proofs.YtpmcmafbfboocaaDoor.Va
open Go.RowKit

set_option maxRecDepth 100000 in
set_option maxHeartbeats 8000000 in
theorem checksWalk (HALV : Hid Alv) (r : Rc) (lo hi : Int) (w : World) (hK : KN w) :
    Calls Tryd.prog 3 #[.agg r.cells, .agg #[.int .i64 lo, .int .i64 hi]] w fun e w' => e = .returned (.bool true) ∧ Below w.heap.size w w' := by
  have hb0 : Below w.heap.size w ((w.alloc (.cells r.cells 23)).alloc (.cells #[.int .i64 lo, .int .i64 hi] 25)) := ((Below.refl _ w).alloc (Nat.le_refl _) _).alloc (by simp) _
  have hX : RcB ((w.alloc (.cells r.cells 23)).alloc (.cells #[.int .i64 lo, .int .i64 hi] 25)) w.heap.size r := Blk.alloc (heap_alloc_new w _) _
  have hQ : Blk ((w.alloc (.cells r.cells 23)).alloc (.cells #[.int .i64 lo, .int .i64 hi] 25)) (w.heap.size + 1) 25 #[.int .i64 lo, .int .i64 hi] := by
    have h := Blk.new (w.alloc (.cells r.cells 23)) 25 #[.int .i64 lo, .int .i64 hi]
    rw [World.size_alloc] at h
    exact h
  have HSH := Lib.hid (short_any r)
  have HC1 : Hid (shR r = true → ∀ w, _) := Lib.hid (fun h w => vCheck_any r (shR_of h).1 (shR_of h).2 w)
  have HC2 : Hid (shR r = true → ∀ w, _) := Lib.hid (fun h w => vRefCheck_any r (shR_of h).1 (shR_of h).2 w)
  have HW1 := Lib.hid (fun w => window_any r lo hi w)
  have HW2 := Lib.hid (fun w => refWindow_any r lo hi w)
  obtain ⟨x, hx⟩ : ∃ x, chkR r = x := ⟨_, rfl⟩
  obtain ⟨y, hy⟩ : ∃ y, winE r lo hi = y := ⟨_, rfl⟩
  rw [hx] at HC1 HC2
  rw [hy] at HW1 HW2
  obtain ⟨v, hv⟩ : ∃ v, shR r = v := ⟨_, rfl⟩
  rw [hv] at HSH HC1 HC2
  have HK := Lib.hid hK
  have HX := Lib.hid hX; have HQ := Lib.hid hQ; have HB0 := Lib.hid hb0
  obtain ⟨s0, s1, s2, sa, sb, s5, s6, s7, s8, b9, s10, b11⟩ := r
  simp only [Rc.cells] at HSH HC1 HC2 HW1 HW2 HX HQ HB0
  obtain ⟨g, hg⟩ : ∃ g, w.heap.size = g := ⟨_, rfl⟩
  rw [hg] at HX HQ
  obtain ⟨L, hL⟩ : ∃ L, (w.alloc (.cells #[.int .i64 s0, .int .i64 s1, .int .i64 s2, .string sa, .string sb, .int .i64 s5, .int .i64 s6, .int .i64 s7, .int .i64 s8, .bool b9, .int .i64 s10, .bool b11] 23)).alloc (.cells #[.int .i64 lo, .int .i64 hi] 25) = L := ⟨_, rfl⟩
  rw [hL] at HX HQ HB0
  obtain ⟨c0, c1, c2, c3, c4, c5, c6, c7, c8, c9, c10, c11⟩ := HX.out.cells
  simp only at c0 c1 c2 c3 c4 c5 c6 c7 c8 c9 c10 c11
  simp only [Rc.cells]
  have q1 : (x == x) = true := by simp
  have q2 : (y == y) = true := by simp
  clear hK hX hQ hb0 hx hy hv
  cases v
  · clear HC1 HC2
    go_enter Tryd.func3, Tryd.ntmps3
    go_wp2_with (first
      | (go_at_call 8; (with_reducible refine (HSH.out _).mono ?_); rintro e w1 ⟨rfl, hb1⟩; have HB1 := Lib.hid (HB0.out.trans (hb1.mono HB0.out.size)); clear hb1)
      | (go_at_call 9; (with_reducible refine (HALV.out _ (HK.out.below HB1.out)).mono ?_); rintro e w9 ⟨rfl, hb9⟩))
    go_ret
    exact ⟨rfl, HB1.out.trans (hb9.mono HB1.out.size)⟩
  · replace HC1 := Lib.hid (HC1.out rfl)
    replace HC2 := Lib.hid (HC2.out rfl)
    go_enter Tryd.func3, Tryd.ntmps3
    go_wp2_with (first
      | (go_at_call 8; (with_reducible refine (HSH.out _).mono ?_); rintro e w1 ⟨rfl, hb1⟩; have HB1 := Lib.hid (HB0.out.trans (hb1.mono HB0.out.size)); have HX1 := Lib.hid (HX.out.below hb1 (heap_lt HX.out)); have HQ1 := Lib.hid (HQ.out.below hb1 HQ.out.lt); clear hb1; obtain ⟨d0, d1, d2, d3, d4, d5, d6, d7, d8, d9, d10, d11⟩ := HX1.out.cells; simp only at d0 d1 d2 d3 d4 d5 d6 d7 d8 d9 d10 d11; obtain ⟨dq0, dq1⟩ := HQ1.out.two))
    clear c0 c1 c2 c3 c4 c5 c6 c7 c8 c9 c10 c11 hL
    go_region_held3 (fun w' => w'.cell? ⟨g, 0, none⟩ = some (.int .i64 s0) ∧ w'.cell? ⟨g, 1, none⟩ = some (.int .i64 s1) ∧ w'.cell? ⟨g, 2, none⟩ = some (.int .i64 s2) ∧ w'.cell? ⟨g, 3, none⟩ = some (.string sa) ∧ w'.cell? ⟨g, 4, none⟩ = some (.string sb) ∧ w'.cell? ⟨g, 5, none⟩ = some (.int .i64 s5) ∧ w'.cell? ⟨g, 6, none⟩ = some (.int .i64 s6) ∧ w'.cell? ⟨g, 7, none⟩ = some (.int .i64 s7) ∧ w'.cell? ⟨g, 8, none⟩ = some (.int .i64 s8) ∧ w'.cell? ⟨g, 9, none⟩ = some (.bool b9) ∧ w'.cell? ⟨g, 10, none⟩ = some (.int .i64 s10) ∧ w'.cell? ⟨g, 11, none⟩ = some (.bool b11) ∧ w'.cell? ⟨g + 1, 0, none⟩ = some (.int .i64 lo) ∧ w'.cell? ⟨g + 1, 1, none⟩ = some (.int .i64 hi)) (go_keep)
      (first
        | (go_at_call 10; (with_reducible refine (HC1.out _).mono ?_); rintro e w2 ⟨rfl, hx2⟩; have hb2 : Below w1.heap.size w1 w2 := ⟨hx2.os, hx2.tape, hx2.output, hx2.size, hx2.block⟩; clear hx2; have HB2 := Lib.hid (HB1.out.trans (hb2.mono HB1.out.size)); have HX2 := Lib.hid (HX1.out.below hb2 (heap_lt HX1.out)); have HQ2 := Lib.hid (HQ1.out.below hb2 HQ1.out.lt); clear hb2; obtain ⟨e0, e1, e2, e3, e4, e5, e6, e7, e8, e9, e10, e11⟩ := HX2.out.cells; simp only at e0 e1 e2 e3 e4 e5 e6 e7 e8 e9 e10 e11; obtain ⟨eq0, eq1⟩ := HQ2.out.two)
        | (go_at_call 11; (with_reducible refine (HC2.out _).mono ?_); rintro e w3 ⟨rfl, hx3⟩; have hb3 : Below w2.heap.size w2 w3 := ⟨hx3.os, hx3.tape, hx3.output, hx3.size, hx3.block⟩; clear hx3; have HB3 := Lib.hid (HB2.out.trans (hb3.mono HB2.out.size)); have HX3 := Lib.hid (HX2.out.below hb3 (heap_lt HX2.out)); have HQ3 := Lib.hid (HQ2.out.below hb3 HQ2.out.lt); clear hb3; obtain ⟨f0, f1, f2, f3, f4, f5, f6, f7, f8, f9, f10, f11⟩ := HX3.out.cells; simp only at f0 f1 f2 f3 f4 f5 f6 f7 f8 f9 f10 f11; obtain ⟨fq0, fq1⟩ := HQ3.out.two)
        | (go_at_call 12; (with_reducible refine (HW1.out _).mono ?_); rintro e w4 ⟨rfl, hx4⟩; have hb4 : Below w3.heap.size w3 w4 := ⟨hx4.os, hx4.tape, hx4.output, hx4.size, hx4.block⟩; clear hx4; have HB4 := Lib.hid (HB3.out.trans (hb4.mono HB3.out.size)); have HX4 := Lib.hid (HX3.out.below hb4 (heap_lt HX3.out)); have HQ4 := Lib.hid (HQ3.out.below hb4 HQ3.out.lt); clear hb4; obtain ⟨g0, g1, g2, g3, g4, g5, g6, g7, g8, g9, g10, g11⟩ := HX4.out.cells; simp only at g0 g1 g2 g3 g4 g5 g6 g7 g8 g9 g10 g11; obtain ⟨gq0, gq1⟩ := HQ4.out.two)
        | (go_at_call 13; (with_reducible refine (HW2.out _).mono ?_); rintro e w5 ⟨rfl, hx5⟩; have hb5 : Below w4.heap.size w4 w5 := ⟨hx5.os, hx5.tape, hx5.output, hx5.size, hx5.block⟩; clear hx5; have HB5 := Lib.hid (HB4.out.trans (hb5.mono HB4.out.size)); have HX5 := Lib.hid (HX4.out.below hb5 (heap_lt HX4.out)); have HQ5 := Lib.hid (HQ4.out.below hb5 HQ4.out.lt); clear hb5; obtain ⟨h0, h1, h2, h3, h4, h5, h6, h7, h8, h9, h10, h11⟩ := HX5.out.cells; simp only at h0 h1 h2 h3 h4 h5 h6 h7 h8 h9 h10 h11; obtain ⟨hq0, hq1⟩ := HQ5.out.two)
        | (go_at_call 9; (with_reducible refine (HALV.out _ (by first | exact HK.out.below HB5.out | exact HK.out.below HB5.out.drew)).mono ?_); rintro e w9 ⟨rfl, hx9⟩; have hb9 : Below w5.heap.size w5 w9 := ⟨hx9.os, hx9.tape, hx9.output, hx9.size, hx9.block⟩; clear hx9; have HX9 := Lib.hid (HX5.out.below hb9 (heap_lt HX5.out)); have HQ9 := Lib.hid (HQ5.out.below hb9 HQ5.out.lt); have HB9 := Lib.hid (HB5.out.trans (hb9.mono HB5.out.size)); clear hb9; obtain ⟨i0, i1, i2, i3, i4, i5, i6, i7, i8, i9, i10, i11⟩ := HX9.out.cells; simp only at i0 i1 i2 i3 i4 i5 i6 i7 i8 i9 i10 i11; obtain ⟨iq0, iq1⟩ := HQ9.out.two))
    go_wp2_with fail
    go_ret
    exact ⟨rfl, HB9.out⟩
end Go.Proofs.YtpmcmafbfboocaaDoor.Va
