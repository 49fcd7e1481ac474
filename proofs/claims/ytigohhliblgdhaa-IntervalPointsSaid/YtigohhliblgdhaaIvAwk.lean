/- Walk: the chapter's examples hold. -/
import Derived.Test.YtigohhliblgdhaaIvInt
import Derived.Test.YtigohhliblgdhaaIvRCut
namespace Go.Proofs.Ytigohhliblgdhaa
open Go.RowKit

theorem pr_cl {w : World} {g : Nat} {t : TypeId} {l : List Pd} (h : Blk w g t (cl l).toArray) : PR w (some ⟨g, 0, none⟩) l := fun k hk =>
  ⟨g, 0, rfl, h.lt, by rw [Nat.zero_add, h.cell]; simpa using (cl_at l k hk).1, by rw [Nat.zero_add, h.cell]; simpa using (cl_at l k hk).2⟩
theorem ir_il {w : World} {g : Nat} {t : TypeId} {l : List Int} (h : Blk w g t (il l).toArray) : IR w (some ⟨g, 0, none⟩) l := fun k hk =>
  ⟨g, 0, rfl, h.lt, by rw [Nat.zero_add, h.cell]; simpa using il_at l k hk⟩
theorem awI1 (w : World) : Calls Try.prog 9 #[.agg #[.int .i64 0, .int .i64 10], .agg #[.int .i64 5, .int .i64 20]] w fun e w' => e = .returned (.tuple #[.agg #[.int .i64 5, .int .i64 10], .bool true]) ∧ Below w.heap.size w w' := intersect_any 0 10 5 20 w
theorem awI2 (w : World) : Calls Try.prog 9 #[.agg #[.int .i64 0, .int .i64 10], .agg #[.int .i64 10, .int .i64 20]] w fun e w' => e = .returned (.tuple #[.agg #[.int .i64 0, .int .i64 0], .bool false]) ∧ Below w.heap.size w w' := intersect_any 0 10 10 20 w
theorem awC : cutV 0 10 [7, 3, 3, 0, 10] = [(0, 3), (3, 7), (7, 10)] := by decide
theorem awD : cmb fCover [(5, 8), (0, 5), (9, 9), (10, 12)] [] = [(0, 8), (10, 12)] := by decide
theorem awM : cmb fMinus [(0, 10)] [(3, 4)] = [(0, 3), (4, 10)] := by decide
theorem awN : cmb fCommon [(0, 10)] [(8, 12), (2, 3)] = [(2, 3), (8, 10)] := by decide
theorem awT : len (cmb fCover [(0, 10), (5, 20)] []) = 20 := by decide
theorem awCut (w : World) : Calls Try.prog 16 #[.agg #[.int .i64 0, .int .i64 10], .slice (some ⟨w.heap.size, 0, none⟩) 5 5] (w.alloc (.cells #[.int .i64 7, .int .i64 3, .int .i64 3, .int .i64 0, .int .i64 10] 3))
    (PdOut [(0, 3), (3, 7), (7, 10)] (w.alloc (.cells #[.int .i64 7, .int .i64 3, .int .i64 3, .int .i64 0, .int .i64 10] 3))) := by
  have hI : IR (w.alloc (.cells #[.int .i64 7, .int .i64 3, .int .i64 3, .int .i64 0, .int .i64 10] 3)) (some ⟨w.heap.size, 0, none⟩) [7, 3, 3, 0, 10] := ir_il (l := [7, 3, 3, 0, 10]) (Blk.new w 3 #[.int .i64 7, .int .i64 3, .int .i64 3, .int .i64 0, .int .i64 10])
  have h := cut_any 0 10 _ 5 5 [7, 3, 3, 0, 10] _ hI rfl (by omega) (by omega)
  rwa [awC] at h
theorem awCover (w : World) : Calls Try.prog 20 #[.slice (some ⟨w.heap.size, 0, none⟩) 4 4] (w.alloc (.cells #[.int .i64 5, .int .i64 8, .int .i64 0, .int .i64 5, .int .i64 9, .int .i64 9, .int .i64 10, .int .i64 12] 23))
    (PdOut [(0, 8), (10, 12)] (w.alloc (.cells #[.int .i64 5, .int .i64 8, .int .i64 0, .int .i64 5, .int .i64 9, .int .i64 9, .int .i64 10, .int .i64 12] 23))) := by
  have hI : PR (w.alloc (.cells #[.int .i64 5, .int .i64 8, .int .i64 0, .int .i64 5, .int .i64 9, .int .i64 9, .int .i64 10, .int .i64 12] 23)) (some ⟨w.heap.size, 0, none⟩) [(5, 8), (0, 5), (9, 9), (10, 12)] :=
    pr_cl (l := [(5, 8), (0, 5), (9, 9), (10, 12)]) (Blk.new w 23 #[.int .i64 5, .int .i64 8, .int .i64 0, .int .i64 5, .int .i64 9, .int .i64 9, .int .i64 10, .int .i64 12])
  have h := cover_any _ 4 4 [(5, 8), (0, 5), (9, 9), (10, 12)] _ hI rfl (by omega) (by omega)
  rwa [awD] at h
theorem awTen (w : World) : PR (w.alloc (.cells #[.int .i64 0, .int .i64 10] 23)) (some ⟨w.heap.size, 0, none⟩) [(0, 10)] := pr_cl (l := [(0, 10)]) (Blk.new w 23 #[.int .i64 0, .int .i64 10])
theorem awMinus (w : World) : Calls Try.prog 24 #[.slice (some ⟨w.heap.size, 0, none⟩) 1 1, .slice (some ⟨w.heap.size + 1, 0, none⟩) 1 1] ((w.alloc (.cells #[.int .i64 0, .int .i64 10] 23)).alloc (.cells #[.int .i64 3, .int .i64 4] 23))
    (PdOut [(0, 3), (4, 10)] ((w.alloc (.cells #[.int .i64 0, .int .i64 10] 23)).alloc (.cells #[.int .i64 3, .int .i64 4] 23))) := by
  have hI := (awTen w).below ((Below.refl _ _).alloc (Nat.le_refl _) (.cells #[.int .i64 3, .int .i64 4] 23))
  have hJ : PR ((w.alloc (.cells #[.int .i64 0, .int .i64 10] 23)).alloc (.cells #[.int .i64 3, .int .i64 4] 23)) (some ⟨w.heap.size + 1, 0, none⟩) [(3, 4)] := by
    have := pr_cl (l := [(3, 4)]) (Blk.new (w.alloc (.cells #[.int .i64 0, .int .i64 10] 23)) 23 #[.int .i64 3, .int .i64 4])
    simpa using this
  have h := minus_any _ _ 1 1 1 1 [(0, 10)] [(3, 4)] _ hI hJ rfl rfl (by omega) (by omega) (by omega)
  rwa [awM] at h
theorem awCommon (w : World) : Calls Try.prog 26 #[.slice (some ⟨w.heap.size, 0, none⟩) 1 1, .slice (some ⟨w.heap.size + 1, 0, none⟩) 2 2] ((w.alloc (.cells #[.int .i64 0, .int .i64 10] 23)).alloc (.cells #[.int .i64 8, .int .i64 12, .int .i64 2, .int .i64 3] 23))
    (PdOut [(2, 3), (8, 10)] ((w.alloc (.cells #[.int .i64 0, .int .i64 10] 23)).alloc (.cells #[.int .i64 8, .int .i64 12, .int .i64 2, .int .i64 3] 23))) := by
  have hI := (awTen w).below ((Below.refl _ _).alloc (Nat.le_refl _) (.cells #[.int .i64 8, .int .i64 12, .int .i64 2, .int .i64 3] 23))
  have hJ : PR ((w.alloc (.cells #[.int .i64 0, .int .i64 10] 23)).alloc (.cells #[.int .i64 8, .int .i64 12, .int .i64 2, .int .i64 3] 23)) (some ⟨w.heap.size + 1, 0, none⟩) [(8, 12), (2, 3)] := by
    have := pr_cl (l := [(8, 12), (2, 3)]) (Blk.new (w.alloc (.cells #[.int .i64 0, .int .i64 10] 23)) 23 #[.int .i64 8, .int .i64 12, .int .i64 2, .int .i64 3])
    simpa using this
  have h := common_any _ _ 1 2 1 2 [(0, 10)] [(8, 12), (2, 3)] _ hI hJ rfl rfl (by omega) (by omega) (by omega)
  rwa [awN] at h
theorem awTotal (w : World) : Calls Try.prog 22 #[.slice (some ⟨w.heap.size, 0, none⟩) 2 2] (w.alloc (.cells #[.int .i64 0, .int .i64 10, .int .i64 5, .int .i64 20] 23))
    fun e w' => e = .returned (.int .i64 20) ∧ Below (w.heap.size + 1) (w.alloc (.cells #[.int .i64 0, .int .i64 10, .int .i64 5, .int .i64 20] 23)) w' := by
  have hI := pr_cl (l := [(0, 10), (5, 20)]) (Blk.new w 23 #[.int .i64 0, .int .i64 10, .int .i64 5, .int .i64 20])
  have h := total_any _ 2 2 [(0, 10), (5, 20)] _ hI rfl (by omega) (by omega)
  rw [awT] at h
  exact h.mono fun _ _ ⟨he, hb⟩ => ⟨he, by simpa using hb⟩
set_option maxRecDepth 100000 in
set_option maxHeartbeats 8000000 in
theorem awake_any (w : World) : Calls Try.prog 15 #[] w fun e w' => e = .returned (.bool true) ∧ Below w.heap.size w w' := by
  have HT0 := Lib.hid (Blk.new w 23 #[.int .i64 0, .int .i64 10])
  have HW0 := Lib.hid ((Below.refl _ w).alloc (Nat.le_refl _) (.cells #[.int .i64 0, .int .i64 10] 23))
  go_enter Try.func15, Try.ntmps15
  go_wp2_with fail
  refine (awI1 _).mono ?_
  rintro e w1 ⟨rfl, hb1⟩
  have hw1 := HW0.out.trans (hb1.mono (by simp))
  have hT1 := HT0.out.below hb1 HT0.out.lt
  have HP1 := Lib.hid (Blk.new w1 23 #[.int .i64 5, .int .i64 10])
  have hs1 := hw1.size
  have HT1 := Lib.hid hT1
  have hl1 := hT1.lt
  obtain ⟨t0, t1⟩ := hT1.two
  clear hb1 hT1
  -- not in common
  go_wp2_with fail
  refine (awI2 _).mono ?_
  rintro e w2 ⟨rfl, hb2⟩
  have hw2 := (hw1.alloc hs1 _).trans (hb2.mono (by simp; omega))
  have hT2 := (HT1.out.alloc _).below hb2 (HT1.out.alloc _).lt
  have HP2 := Lib.hid (HP1.out.below hb2 HP1.out.lt)
  have hs2 := hw2.size
  have HT2 := Lib.hid hT2
  have hl2 := hT2.lt
  clear t0 t1 hl1
  obtain ⟨t0, t1⟩ := hT2.two
  clear hb2 hT2
  -- Cut
  go_wp2_with fail
  have hX := awCut (w2.alloc (.cells #[.int .i64 0, .int .i64 0] 23))
  rw [show (w2.alloc (.cells #[.int .i64 0, .int .i64 0] 23)).heap.size = w2.heap.size + 1 from by simp] at hX
  refine hX.mono ?_
  clear hX
  rintro e w3 ⟨C, c, rfl, hc, hC, hb3⟩
  have hw3 := ((hw2.alloc hs2 _).alloc (by simp; omega) _).trans (hb3.mono (by simp; omega))
  have hT3 := ((HT2.out.alloc _).alloc _).below hb3 ((HT2.out.alloc _).alloc _).lt
  have HP3 := Lib.hid (((HP2.out.alloc _).alloc _).below hb3 ((HP2.out.alloc _).alloc _).lt)
  have HC3 := Lib.hid hC
  have hs3 := hw3.size
  have HT3 := Lib.hid hT3
  have hl3 := hT3.lt
  clear t0 t1 hl2 hb3 hC
  obtain ⟨t0, t1⟩ := hT3.two
  clear hT3
  -- Cover
  go_wp2_with fail
  refine (awCover w3).mono ?_
  rintro e w4 ⟨D, d, rfl, hd, hD, hb4⟩
  have hw4 := (hw3.alloc hs3 _).trans (hb4.mono (by simp; omega))
  have hT4 := (HT3.out.alloc _).below hb4 (HT3.out.alloc _).lt
  have HP4 := Lib.hid ((HP3.out.alloc _).below hb4 (HP3.out.alloc _).lt)
  have HC4 := Lib.hid ((HC3.out.below ((Below.refl _ w3).alloc (Nat.le_refl _) _)).below hb4)
  have HD4 := Lib.hid hD
  have hs4 := hw4.size
  have HT4 := Lib.hid hT4
  have hl4 := hT4.lt
  clear t0 t1 hl3 hb4 hD
  obtain ⟨t0, t1⟩ := hT4.two
  clear hT4
  -- Minus
  go_wp2_with fail
  refine (awMinus w4).mono ?_
  rintro e w5 ⟨M, m, rfl, hm, hM, hb5⟩
  have hw5 := ((hw4.alloc hs4 _).alloc (by simp; omega) _).trans (hb5.mono (by simp; omega))
  have hT5 := ((HT4.out.alloc _).alloc _).below hb5 ((HT4.out.alloc _).alloc _).lt
  have HP5 := Lib.hid (((HP4.out.alloc _).alloc _).below hb5 ((HP4.out.alloc _).alloc _).lt)
  have hb45 : Below w4.heap.size w4 w5 := (((Below.refl _ w4).alloc (Nat.le_refl _) _).alloc (by simp) _).trans (hb5.mono (by simp; omega))
  have HC5 := Lib.hid (HC4.out.below hb45)
  have HD5 := Lib.hid (HD4.out.below hb45)
  have HM5 := Lib.hid hM
  have hs5 := hw5.size
  have HT5 := Lib.hid hT5
  have hl5 := hT5.lt
  clear t0 t1 hl4 hb5 hM hb45
  obtain ⟨t0, t1⟩ := hT5.two
  clear hT5
  -- Common
  go_wp2_with fail
  refine (awCommon w5).mono ?_
  rintro e w6 ⟨N, n, rfl, hn, hN, hb6⟩
  have hw6 := ((hw5.alloc hs5 _).alloc (by simp; omega) _).trans (hb6.mono (by simp; omega))
  have hT6 := ((HT5.out.alloc _).alloc _).below hb6 ((HT5.out.alloc _).alloc _).lt
  have hP6 := ((HP5.out.alloc _).alloc _).below hb6 ((HP5.out.alloc _).alloc _).lt
  have hb56 : Below w5.heap.size w5 w6 := (((Below.refl _ w5).alloc (Nat.le_refl _) _).alloc (by simp) _).trans (hb6.mono (by simp; omega))
  obtain ⟨bc, oc, rfl, _, c0, c1⟩ := (HC5.out.below hb56) 1 (by decide)
  obtain ⟨bd, od, rfl, _, d0, d1⟩ := (HD5.out.below hb56) 0 (by decide)
  obtain ⟨bm, om, rfl, _, m0, m1⟩ := (HM5.out.below hb56) 1 (by decide)
  obtain ⟨bn, on, rfl, _, n0, n1⟩ := hN 0 (by decide)
  have hs6 := hw6.size
  have hl6 := hT6.lt
  clear t0 t1 hl5 hb6 hN hb56
  obtain ⟨t0, t1⟩ := hT6.two
  obtain ⟨p0, p1⟩ := hP6.two
  clear hT6 hP6
  have q1 := eqPeriod_same 5 10
  have q2 := eqPeriod_same 3 7
  have q3 := eqPeriod_same 0 8
  have q4 := eqPeriod_same 4 10
  have q5 := eqPeriod_same 2 3
  have hgd := guardPeriod
  simp at c0 c1 d0 d1 m0 m1 n0 n1
  go_wp2_with (first | (go_at_call 22; (with_reducible refine (awTotal w6).mono ?_); rintro e w7 ⟨rfl, hb7⟩))
  go_ret
  exact ⟨rfl, (hw6.alloc hs6 _).trans (hb7.mono (by omega))⟩
end Go.Proofs.Ytigohhliblgdhaa
