/- Walks: what two periods have in common, in the program and in the reference. -/
import Derived.Test.YtigohhliblgdhaaIvFun
namespace Go.Proofs.Ytigohhliblgdhaa
open Go.RowKit

/-- The common part of two periods, if it is valid. -/
def isx (a b c d : Int) : Bool := vl (a, b) && vl (c, d) && vl (max a c, min b d)
theorem isx_cmb (a b c d : Int) : cmb fCommon [(a, b)] [(c, d)] = if isx a b c d then [(max a c, min b d)] else [] := by
  have hm : ∀ p t, mem [p] t = ctn p t := fun p t => by rw [mem_cons, mem_nil, Bool.or_false]
  cases h : isx a b c d
  · rw [if_neg (by simp)]
    refine cmb_uniq rfl can_nil fun t => ?_
    rw [mem_nil, hm, hm]
    unfold isx at h
    cases h1 : ctn (a, b) t
    · rfl
    · cases h2 : ctn (c, d) t
      · rfl
      · obtain ⟨v1, p1, p2⟩ := ctn_iff.1 h1
        obtain ⟨v2, q1, q2⟩ := ctn_iff.1 h2
        have w1 := vl_iff.1 v1
        have w2 := vl_iff.1 v2
        simp only at p1 p2 q1 q2 w1 w2
        have v3 : vl (max a c, min b d) = true := vl_iff.2 (by simp only; omega)
        rw [v1, v2, v3] at h
        cases h
  · rw [if_pos rfl]
    unfold isx at h
    rw [Bool.and_eq_true, Bool.and_eq_true] at h
    obtain ⟨⟨v1, v2⟩, v3⟩ := h
    refine cmb_uniq rfl (can_cons.2 ⟨v3, (fun q hq => by cases hq), can_nil⟩) fun t => ?_
    rw [hm, hm, hm]
    unfold ctn fCommon
    rw [v1, v2, v3]
    simp only [Bool.true_and]
    rw [Bool.eq_iff_iff]
    simp
    omega
def IsOut (a b c d : Int) (w : World) (e : Ending) (w' : World) : Prop :=
  e = .returned (.tuple #[.agg #[.int .i64 (if isx a b c d then max a c else 0), .int .i64 (if isx a b c d then min b d else 0)], .bool (isx a b c d)]) ∧ Below w.heap.size w w'
theorem isOut_no {a b c d : Int} (h : isx a b c d = false) {w : World} {e : Ending} {w' : World} (he : e = .returned (.tuple #[.agg #[.int .i64 0, .int .i64 0], .bool false])) (hb : Below w.heap.size w w') : IsOut a b c d w e w' := by
  unfold IsOut; rw [h]; exact ⟨he, hb⟩
theorem isOut_yes {a b c d : Int} (h : isx a b c d = true) {w : World} {e : Ending} {w' : World} {x y : Int} (hx : max a c = x) (hy : min b d = y) (he : e = .returned (.tuple #[.agg #[.int .i64 x, .int .i64 y], .bool true])) (hb : Below w.heap.size w w') : IsOut a b c d w e w' := by
  unfold IsOut; rw [h, ← hx, ← hy] at *; exact ⟨he, hb⟩
/-- The four boxes of the call. -/
def Bx (w : World) (g : Nat) (a b c d x y : Int) : Prop :=
  Blk w g 23 #[.int .i64 a, .int .i64 b] ∧ Blk w (g + 1) 23 #[.int .i64 c, .int .i64 d] ∧ Blk w (g + 1 + 1) 23 #[.int .i64 0, .int .i64 0] ∧ Blk w (g + 1 + 1 + 1) 23 #[.int .i64 x, .int .i64 y]
theorem Bx.below {w w' : World} {g : Nat} {a b c d x y : Int} (h : Bx w g a b c d x y) (hb : Below w.heap.size w w') : Bx w' g a b c d x y :=
  ⟨h.1.below hb h.1.lt, h.2.1.below hb h.2.1.lt, h.2.2.1.below hb h.2.2.1.lt, h.2.2.2.below hb h.2.2.2.lt⟩
theorem Bx.new (w : World) (a b c d x y : Int) : Bx ((((w.alloc (.cells #[.int .i64 a, .int .i64 b] 23)).alloc (.cells #[.int .i64 c, .int .i64 d] 23)).alloc (.cells #[.int .i64 0, .int .i64 0] 23)).alloc (.cells #[.int .i64 x, .int .i64 y] 23)) w.heap.size a b c d x y := by
  refine ⟨(((Blk.new w _ _).alloc _).alloc _).alloc _, ?_, ?_, ?_⟩
  · have := ((Blk.new (w.alloc (.cells #[.int .i64 a, .int .i64 b] 23)) 23 #[.int .i64 c, .int .i64 d]).alloc (.cells #[.int .i64 0, .int .i64 0] 23)).alloc (.cells #[.int .i64 x, .int .i64 y] 23)
    simpa using this
  · have := (Blk.new ((w.alloc (.cells #[.int .i64 a, .int .i64 b] 23)).alloc (.cells #[.int .i64 c, .int .i64 d] 23)) 23 #[.int .i64 0, .int .i64 0]).alloc (.cells #[.int .i64 x, .int .i64 y] 23)
    simpa using this
  · have := Blk.new (((w.alloc (.cells #[.int .i64 a, .int .i64 b] 23)).alloc (.cells #[.int .i64 c, .int .i64 d] 23)).alloc (.cells #[.int .i64 0, .int .i64 0] 23)) 23 #[.int .i64 x, .int .i64 y]
    simpa using this
theorem Bx.cells {w : World} {g : Nat} {a b c d x y : Int} (h : Bx w g a b c d x y) :
    w.cell? ⟨g + 1, 0, none⟩ = some (.int .i64 c) ∧ w.cell? ⟨g + 1, 1, none⟩ = some (.int .i64 d) ∧ w.cell? ⟨g + 1 + 1, 0, none⟩ = some (.int .i64 0) ∧ w.cell? ⟨g + 1 + 1, 1, none⟩ = some (.int .i64 0) ∧
    w.cell? ⟨g + 1 + 1 + 1, 0, none⟩ = some (.int .i64 x) ∧ w.cell? ⟨g + 1 + 1 + 1, 1, none⟩ = some (.int .i64 y) ∧ w.frozen? ⟨g + 1 + 1, 0, none⟩ = false ∧ w.frozen? ⟨g + 1 + 1, 1, none⟩ = false :=
  ⟨h.2.1.two.1, h.2.1.two.2, h.2.2.1.two.1, h.2.2.1.two.2, h.2.2.2.two.1, h.2.2.2.two.2, h.2.2.1.frozen 0, h.2.2.1.frozen 1⟩
set_option maxHeartbeats 4000000 in
theorem intersect_any (a b c d : Int) (w : World) :
    Calls Try.prog 9 #[.agg #[.int .i64 a, .int .i64 b], .agg #[.int .i64 c, .int .i64 d]] w (IsOut a b c d w) := by
  obtain ⟨x, hx⟩ : ∃ x, max a c = x := ⟨_, rfl⟩
  obtain ⟨y, hy⟩ : ∃ y, min b d = y := ⟨_, rfl⟩
  have HX := Lib.hid hx; have HY := Lib.hid hy
  have HB := Lib.hid (Bx.new w a b c d x y)
  have HW : Hid (Below w.heap.size w ((((w.alloc (.cells #[.int .i64 a, .int .i64 b] 23)).alloc (.cells #[.int .i64 c, .int .i64 d] 23)).alloc (.cells #[.int .i64 0, .int .i64 0] 23)).alloc (.cells #[.int .i64 x, .int .i64 y] 23))) :=
    Lib.hid (((((Below.refl _ w).alloc (Nat.le_refl _) _).alloc (by simp) _).alloc (by simp; omega) _).alloc (by simp; omega) _)
  cases h1 : vl (a, b)
  · have hno : isx a b c d = false := by unfold isx; rw [h1]; rfl
    have H1 := Lib.hid (valid_is a b _ h1)
    have HN := Lib.hid hno
    clear h1 hno
    go_enter Try.func9, Try.ntmps9
    go_wp2_with (go_at_call 11; (with_reducible refine (H1.out _).mono ?_); rintro e w1 ⟨rfl, hb1⟩; have hw1 := HW.out.trans (hb1.mono (by simp; omega)); obtain ⟨q0, q1, z0, z1, c0, c1, f0, f1⟩ := (HB.out.below hb1).cells; clear hb1)
    exact bodyPost_ret (v := .tuple #[.agg #[.int .i64 0, .int .i64 0], .bool false]) (by simp [results, Try.results9, go_sem, z0, z1, f0, f1]) rfl (isOut_no HN.out rfl ((hw1.setCell (by simp; omega) _).setCell (by simp; omega) _))
  · have H1 := Lib.hid (valid_is a b _ h1)
    cases h2 : vl (c, d)
    · have hno : isx a b c d = false := by unfold isx; rw [h1, h2]; rfl
      have H2 := Lib.hid (valid_is c d _ h2)
      have HN := Lib.hid hno
      clear h1 h2 hno
      go_enter Try.func9, Try.ntmps9
      go_wp2_with (first
        | (go_at_call 11; (with_reducible refine (H1.out _).mono ?_); rintro e w1 ⟨rfl, hb1⟩; have hw1 := HW.out.trans (hb1.mono (by simp; omega)); have HB1 := Lib.hid (HB.out.below hb1); obtain ⟨q0, q1, z0, z1, c0, c1, f0, f1⟩ := HB1.out.cells; clear hb1)
        | (go_at_call 11; (with_reducible refine (H2.out _).mono ?_); rintro e w2 ⟨rfl, hb2⟩; have hw2 := hw1.trans (hb2.mono hw1.size); clear q0 q1 z0 z1 c0 c1 f0 f1 hw1; obtain ⟨q0, q1, z0, z1, c0, c1, f0, f1⟩ := (HB1.out.below hb2).cells; clear hb2))
      exact bodyPost_ret (v := .tuple #[.agg #[.int .i64 0, .int .i64 0], .bool false]) (by simp [results, Try.results9, go_sem, z0, z1, f0, f1]) rfl (isOut_no HN.out rfl ((hw2.setCell (by simp; omega) _).setCell (by simp; omega) _))
    · have H2 := Lib.hid (valid_is c d _ h2)
      cases h3 : vl (x, y)
      · have hno : isx a b c d = false := by unfold isx; rw [h1, h2, hx, hy, h3]; rfl
        have H3 := Lib.hid (valid_is x y _ h3)
        have HN := Lib.hid hno
        clear h1 h2 h3 hno
        go_enter Try.func9, Try.ntmps9
        go_wp2_with (first
          | (go_at_call 11; (with_reducible refine (H1.out _).mono ?_); rintro e w1 ⟨rfl, hb1⟩; have hw1 := HW.out.trans (hb1.mono (by simp; omega)); have HB1 := Lib.hid (HB.out.below hb1); obtain ⟨q0, q1, z0, z1, c0, c1, f0, f1⟩ := HB1.out.cells; clear hb1)
          | (go_at_call 11; (with_reducible refine (H2.out _).mono ?_); rintro e w2 ⟨rfl, hb2⟩; have hw2 := hw1.trans (hb2.mono hw1.size); clear q0 q1 z0 z1 c0 c1 f0 f1 hw1; have HB2 := Lib.hid (HB1.out.below hb2); obtain ⟨q0, q1, z0, z1, c0, c1, f0, f1⟩ := HB2.out.cells; clear hb2)
          | (go_at_call 11; (with_reducible refine (H3.out _).mono ?_); rintro e w3 ⟨rfl, hb3⟩; have hw3 := hw2.trans (hb3.mono hw2.size); clear q0 q1 z0 z1 c0 c1 f0 f1 hw2; obtain ⟨q0, q1, z0, z1, c0, c1, f0, f1⟩ := (HB2.out.below hb3).cells; clear hb3))
        exact bodyPost_ret (v := .tuple #[.agg #[.int .i64 0, .int .i64 0], .bool false]) (by simp [results, Try.results9, go_sem, z0, z1, f0, f1]) rfl (isOut_no HN.out rfl ((hw3.setCell (by simp; omega) _).setCell (by simp; omega) _))
      · have hyes : isx a b c d = true := by unfold isx; rw [h1, h2, hx, hy, h3]; rfl
        have H3 := Lib.hid (valid_is x y _ h3)
        have HN := Lib.hid hyes
        clear h1 h2 h3 hyes
        go_enter Try.func9, Try.ntmps9
        go_wp2_with (first
          | (go_at_call 11; (with_reducible refine (H1.out _).mono ?_); rintro e w1 ⟨rfl, hb1⟩; have hw1 := HW.out.trans (hb1.mono (by simp; omega)); have HB1 := Lib.hid (HB.out.below hb1); obtain ⟨q0, q1, z0, z1, c0, c1, f0, f1⟩ := HB1.out.cells; clear hb1)
          | (go_at_call 11; (with_reducible refine (H2.out _).mono ?_); rintro e w2 ⟨rfl, hb2⟩; have hw2 := hw1.trans (hb2.mono hw1.size); clear q0 q1 z0 z1 c0 c1 f0 f1 hw1; have HB2 := Lib.hid (HB1.out.below hb2); obtain ⟨q0, q1, z0, z1, c0, c1, f0, f1⟩ := HB2.out.cells; clear hb2)
          | (go_at_call 11; (with_reducible refine (H3.out _).mono ?_); rintro e w3 ⟨rfl, hb3⟩; have hw3 := hw2.trans (hb3.mono hw2.size); clear q0 q1 z0 z1 c0 c1 f0 f1 hw2; obtain ⟨q0, q1, z0, z1, c0, c1, f0, f1⟩ := (HB2.out.below hb3).cells; clear hb3))
        exact bodyPost_ret (v := .tuple #[.agg #[.int .i64 x, .int .i64 y], .bool true]) (by simp [results, Try.results9, go_sem, z0, z1, f0, f1]) rfl (isOut_yes HN.out HX.out HY.out rfl ((hw3.setCell (by simp; omega) _).setCell (by simp; omega) _))
theorem pr_lit {w : World} {g : Nat} {t : TypeId} {a b : Int} (h : Blk w g t #[.int .i64 a, .int .i64 b]) : PR w (some ⟨g, 0, none⟩) [(a, b)] := by
  intro k hk
  obtain rfl : k = 0 := by simp at hk; omega
  exact ⟨g, 0, rfl, h.lt, h.two.1, h.two.2⟩
/-- The five boxes of the reference's call. -/
def B5 (w : World) (g : Nat) (a b c d : Int) : Prop :=
  Blk w (g + 1 + 1) 23 #[.int .i64 0, .int .i64 0] ∧ Blk w (g + 1 + 1 + 1) 23 #[.int .i64 a, .int .i64 b] ∧ Blk w (g + 1 + 1 + 1 + 1) 23 #[.int .i64 c, .int .i64 d]
theorem B5.new (w : World) (a b c d : Int) : B5 (((((w.alloc (.cells #[.int .i64 a, .int .i64 b] 23)).alloc (.cells #[.int .i64 c, .int .i64 d] 23)).alloc (.cells #[.int .i64 0, .int .i64 0] 23)).alloc (.cells #[.int .i64 a, .int .i64 b] 23)).alloc (.cells #[.int .i64 c, .int .i64 d] 23)) w.heap.size a b c d := by
  have h := Bx.new w a b c d a b
  refine ⟨h.2.2.1.alloc _, h.2.2.2.alloc _, ?_⟩
  have := Blk.new ((((w.alloc (.cells #[.int .i64 a, .int .i64 b] 23)).alloc (.cells #[.int .i64 c, .int .i64 d] 23)).alloc (.cells #[.int .i64 0, .int .i64 0] 23)).alloc (.cells #[.int .i64 a, .int .i64 b] 23)) 23 #[.int .i64 c, .int .i64 d]
  simpa using this
set_option maxHeartbeats 4000000 in
theorem refIntersect_any (a b c d : Int) (w : World) :
    Calls Try.prog 10 #[.agg #[.int .i64 a, .int .i64 b], .agg #[.int .i64 c, .int .i64 d]] w (IsOut a b c d w) := by
  obtain ⟨x, hx⟩ : ∃ x, max a c = x := ⟨_, rfl⟩
  obtain ⟨y, hy⟩ : ∃ y, min b d = y := ⟨_, rfl⟩
  have HX := Lib.hid hx; have HY := Lib.hid hy
  have hB := B5.new w a b c d
  have HW : Hid (Below w.heap.size w (((((w.alloc (.cells #[.int .i64 a, .int .i64 b] 23)).alloc (.cells #[.int .i64 c, .int .i64 d] 23)).alloc (.cells #[.int .i64 0, .int .i64 0] 23)).alloc (.cells #[.int .i64 a, .int .i64 b] 23)).alloc (.cells #[.int .i64 c, .int .i64 d] 23))) :=
    Lib.hid ((((((Below.refl _ w).alloc (Nat.le_refl _) _).alloc (by simp) _).alloc (by simp; omega) _).alloc (by simp; omega) _).alloc (by simp; omega) _)
  have hC := refCommon_any _ _ 1 1 1 1 [(a, b)] [(c, d)] _ (pr_lit hB.2.1) (pr_lit hB.2.2) rfl rfl (Nat.le_refl _) (Nat.le_refl _) (by omega)
  rw [isx_cmb, hx, hy] at hC
  have HB := Lib.hid hB
  cases h : isx a b c d
  · rw [h, if_neg (by simp)] at hC
    have HC := Lib.hid hC
    have HN := Lib.hid h
    clear hC h hB hx hy
    go_enter Try.func10, Try.ntmps10
    go_wp2_with (go_at_call 27; (with_reducible refine HC.out.mono ?_); rintro e w1 ⟨R, r, rfl, hr, hR, hb1⟩; have hw1 := HW.out.trans (hb1.mono (by simp; omega)); have hZ := HB.out.1.below hb1 HB.out.1.lt; obtain ⟨z0, z1⟩ := hZ.two; have f0 := hZ.frozen 0; have f1 := hZ.frozen 1; clear hb1 hZ)
    exact bodyPost_ret (v := .tuple #[.agg #[.int .i64 0, .int .i64 0], .bool false]) (by simp [results, Try.results10, go_sem, z0, z1, f0, f1]) rfl (isOut_no HN.out rfl ((hw1.setCell (by simp; omega) _).setCell (by simp; omega) _))
  · rw [h, if_pos rfl] at hC
    have HC := Lib.hid hC
    have HN := Lib.hid h
    clear hC h hB hx hy
    go_enter Try.func10, Try.ntmps10
    go_wp2_with (go_at_call 27; (with_reducible refine HC.out.mono ?_); rintro e w1 ⟨R, r, rfl, hr, hR, hb1⟩; have hw1 := HW.out.trans (hb1.mono (by simp; omega)); have hZ := HB.out.1.below hb1 HB.out.1.lt; obtain ⟨z0, z1⟩ := hZ.two; have f0 := hZ.frozen 0; have f1 := hZ.frozen 1; obtain ⟨bk, off, rfl, _, g0, g1⟩ := hR 0 (by simp); simp only [Nat.zero_mul, Nat.add_zero, List.getD_cons_zero] at g0 g1; clear hb1 hZ hR)
    exact bodyPost_ret (v := .tuple #[.agg #[.int .i64 x, .int .i64 y], .bool true]) (by simp [results, Try.results10, go_sem, z0, z1, f0, f1]) rfl (isOut_yes HN.out HX.out HY.out rfl ((hw1.setCell (by simp; omega) _).setCell (by simp; omega) _))
end Go.Proofs.Ytigohhliblgdhaa
