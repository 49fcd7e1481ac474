/- Walk of the reference: Same. -/
import Derived.Test.YthjckkcafhiomaaPdSm
import Derived.Test.YthjckkcafhiomaaPdCp
import Derived.RegionTactic
namespace Go.Proofs.Ythjckkcafhiomaa.Pd
open Go.RowKit

theorem two_new (w : World) (s : Nat) (X Y : Array Value) (hs : w.heap.size = s) :
    Blk ((w.alloc (.cells X 48)).alloc (.cells Y 48)).drew s 48 X ∧ Blk ((w.alloc (.cells X 48)).alloc (.cells Y 48)).drew (s + 1) 48 Y ∧
      Below w.heap.size w ((w.alloc (.cells X 48)).alloc (.cells Y 48)).drew := by
  refine ⟨?_, ?_, ((below_one w _).alloc (by simp) _).drew⟩
  · rw [← hs]; exact ((Blk.new w _ _).alloc _).drew
  · have h := Blk.new (w.alloc (.cells X 48)) 48 Y
    rw [World.size_alloc, hs] at h
    exact h.drew
set_option maxRecDepth 100000 in
set_option maxHeartbeats 32000000 in
theorem same_yes (a b : Pr) (w : World) (ha : PrOk w a) (hb : PrOk w b) (hd : DeepP b a) : Calls Try.prog 15 #[.agg a.cells, .agg b.cells] w fun e w' => e = .returned (.bool true) ∧ Below w.heap.size w w' := by
  obtain ⟨nm, fr, fe, ca, pr, A, n, c, bs⟩ := a
  obtain ⟨nm', fr', fe', ca', pr', A', n', c', bs'⟩ := b
  obtain ⟨h1, h2, h3, h4, h5, h6, hlen, hdb⟩ := hd
  simp only at h1 h2 h3 h4 h5 h6 hlen hdb
  subst h1 h2 h3 h4 h5 h6
  have hn : bs'.length = n := hb.len
  obtain ⟨g, hg⟩ : ∃ g, w.heap.size = g := ⟨_, rfl⟩
  obtain ⟨L, hL⟩ : ∃ L, (w.alloc (.cells #[.string nm, .int .i64 fr, .int .i64 fe, .string ca, .bool pr, .slice A n c] 29)).alloc (.cells #[.string nm, .int .i64 fr, .int .i64 fe, .string ca, .bool pr, .slice A' n c'] 29) = L := ⟨_, rfl⟩
  have hbL : Below w.heap.size w L := hL ▸ (below_one w _).alloc (by simp) _
  have hB1 : Blk L g 29 #[.string nm, .int .i64 fr, .int .i64 fe, .string ca, .bool pr, .slice A n c] := hL ▸ hg ▸ (Blk.new w _ _).alloc _
  have hB2 : Blk L (g + 1) 29 #[.string nm, .int .i64 fr, .int .i64 fe, .string ca, .bool pr, .slice A' n c'] := by
    have h := Blk.new (w.alloc (.cells #[.string nm, .int .i64 fr, .int .i64 fe, .string ca, .bool pr, .slice A n c] 29)) 29 #[.string nm, .int .i64 fr, .int .i64 fe, .string ca, .bool pr, .slice A' n c']
    rw [World.size_alloc, hg, hL] at h
    exact h
  have hmx : n ≤ maxLen := Nat.le_trans hb.cap hb.max
  unfold maxLen at hmx
  have HA := Lib.hid ha.bs; have HBB := Lib.hid hb.bs; have HD := Lib.hid hdb; have HN := Lib.hid hn; have HLEN := Lib.hid hlen
  have HBL := Lib.hid hbL; have H1 := Lib.hid hB1; have H2 := Lib.hid hB2
  obtain ⟨c0, c1, c2, c3, c4, c5⟩ := hB1.six
  obtain ⟨d0, d1, d2, d3, d4, d5⟩ := hB2.six
  have hq1 := sEq_is (x := nm) (y := nm) (v := true) (by simp)
  have hq2 := sEq_is (x := ca) (y := ca) (v := true) (by simp)
  unfold Pr.cells
  simp only
  clear ha hb hdb hn hlen hbL hB1 hB2
  go_enter Try.func15, Try.ntmps15
  go_wp2_with fail
  clear c0 c1 c2 c3 c4 c5 d0 d1 d2 d3 d4 d5 hq1 hq2 hL hg
  go_loopw [5] (fun iv wr => ∃ k : Nat, iv = .int .i64 k ∧ k ≤ n ∧ Hid (Below w.heap.size w wr) ∧ Hid (Blk wr g 29 #[.string nm, .int .i64 fr, .int .i64 fe, .string ca, .bool pr, .slice A n c]) ∧ Hid (Blk wr (g + 1) 29 #[.string nm, .int .i64 fr, .int .i64 fe, .string ca, .bool pr, .slice A' n c'])) (fun iv _ => n - (intOf iv).toNat)
  case atStart => exact ⟨0, rfl, by omega, HBL, H1, H2⟩
  case round =>
    obtain ⟨k, rfl, hk, HB, HP1, HP2⟩ := hrel
    have c5 := HP1.out.six.2.2.2.2.2
    have d5 := HP2.out.six.2.2.2.2.2
    by_cases hlt : k < n
    · have hlt' : (k : Int) < (n : Int) := by omega
      have hkb : k < bs'.length := by rw [HN.out]; exact hlt
      have hka : k < bs.length := by rw [HLEN.out]; exact hkb
      obtain ⟨ba, oa, rfl, hba, hsa, hoa⟩ := HA.out k hka
      obtain ⟨bb, ob, rfl, hbb, hsb, hob⟩ := HBB.out k hkb
      have hsa := hsa.below HB.out hba
      have hsb := hsb.below HB.out hbb
      have hdd := HD.out k hkb
      obtain ⟨x, hx⟩ : ∃ x, bs.getD k bn0 = x := ⟨_, rfl⟩
      obtain ⟨y, hy⟩ : ∃ y, bs'.getD k bn0 = y := ⟨_, rfl⟩
      rw [hx] at hsa hoa hdd
      rw [hy] at hsb hob hdd
      have HX := Lib.hid hx; have HY := Lib.hid hy
      obtain ⟨xk, xA, xN, xC, xu, xr, xp, xs, xz⟩ := x
      obtain ⟨yk, yA, yN, yC, yu, yr, yp, ys, yz⟩ := y
      obtain ⟨t1, t2, t3, t4, t5, t6, t7⟩ := hdd
      simp only at t1 t2 t3 t4 t5 t6 t7
      subst t1 t2 t3 t4 t5 t6 t7
      unfold Bn.cells at hsa hsb
      simp only at hsa hsb
      obtain ⟨e0, e1, e2, e3, e4, e5⟩ := hsa.all
      obtain ⟨z0, z1, z2, z3, z4, z5⟩ := hsb.all
      obtain ⟨s, hs⟩ : ∃ s, wr.heap.size = s := ⟨_, rfl⟩
      clear hsa hsb hba hbb hka hkb hx hy
      have HOA := Lib.hid hoa; have HOB := Lib.hid hob
      clear hoa hob
      go_wp2_with fail
      have up1 : ∀ {p : Addr} {v : Value}, wr.cell? p = some v → ∀ o, (wr.alloc o).cell? p = some v := fun h o => ((below_one wr _).cell (cell_block_lt h)).trans h
      have up2 : ∀ {p : Addr} {v : Value}, (∀ o, (wr.alloc o).cell? p = some v) → ∀ o o', ((wr.alloc o).alloc o').cell? p = some v := fun h o o' => ((below_one _ _).cell (cell_block_lt (h o))).trans (h o)
      have c5a := up1 c5; have c5b := up2 c5a
      have d5a := up1 d5; have d5b := up2 d5a
      have e0a := up1 e0; have e0b := up2 e0a
      have e1a := up1 e1; have e1b := up2 e1a
      have e2a := up1 e2; have e2b := up2 e2a
      have e3a := up1 e3; have e3b := up2 e3a
      have e4a := up1 e4; have e4b := up2 e4a
      have e5a := up1 e5; have e5b := up2 e5a
      have z0a := up1 z0; have z0b := up2 z0a
      have z1a := up1 z1; have z1b := up2 z1a
      have z2a := up1 z2; have z2b := up2 z2a
      have z3a := up1 z3; have z3b := up2 z3a
      have z4a := up1 z4; have z4b := up2 z4a
      have z5a := up1 z5; have z5b := up2 z5a
      clear up1 up2
      go_region
      · obtain ⟨W2, hW2⟩ : ∃ W2, ((wr.alloc (.cells #[.int .i64 xk, .slice xA xN xC, .int .i64 xu, .int .i64 xr, .int .i64 xp, .bool xs] 48)).alloc (.cells #[.int .i64 xk, .slice yA xN yC, .int .i64 xu, .int .i64 xr, .int .i64 xp, .bool xs] 48)).drew = W2 := ⟨_, rfl⟩
        rw [hW2]
        obtain ⟨h1, h2, h3⟩ := two_new wr s #[.int .i64 xk, .slice xA xN xC, .int .i64 xu, .int .i64 xr, .int .i64 xp, .bool xs] #[.int .i64 xk, .slice yA xN yC, .int .i64 xu, .int .i64 xr, .int .i64 xp, .bool xs] hs
        rw [hW2] at h1 h2 h3
        clear hW2 c5a c5b d5a d5b e0a e0b e1a e1b e2a e2b e3a e3b e4a e4b e5a e5b z0a z0b z1a z1b z2a z2b z3a z3b z4a z4b z5a z5b c5 d5 e0 e1 e2 e3 e4 e5 z0 z1 z2 z3 z4 z5 hs
        obtain ⟨x0, x1, x2, x3, x4, x5⟩ := h1.six
        obtain ⟨y0, y1, y2, y3, y4, y5⟩ := h2.six
        have HB2 := Lib.hid (HB.out.trans (h3.mono HB.out.size)); have HP12 := Lib.hid (HP1.out.below h3 HP1.out.lt); have HP22 := Lib.hid (HP2.out.below h3 HP2.out.lt)
        have HST := Lib.hid (sameTexts_yes xA yA xN xC yC xz W2 (HOA.out.zs.below HB2.out) (HOB.out.zs.below HB2.out) HOA.out.len (Nat.le_trans HOA.out.cap HOA.out.max))
        clear h1 h2 h3
        go_wp2_with (go_at_call 16; (with_reducible refine HST.out.mono ?_); rintro e w4 ⟨rfl, hb4⟩; have HB4 := Lib.hid (HB2.out.trans (hb4.mono HB2.out.size)); have HP14 := Lib.hid (HP12.out.below hb4 HP12.out.lt); have HP24 := Lib.hid (HP22.out.below hb4 HP22.out.lt); clear hb4)
        go_roundw
        case rel => exact ⟨k + 1, by go_num, by omega, HB4, HP14, HP24⟩
        case measure => simp [intOf]; omega
      · obtain ⟨W2, hW2⟩ : ∃ W2, ((wr.alloc (.cells #[.int .i64 xk, .slice yA xN yC, .int .i64 xu, .int .i64 xr, .int .i64 xp, .bool xs] 48)).alloc (.cells #[.int .i64 xk, .slice xA xN xC, .int .i64 xu, .int .i64 xr, .int .i64 xp, .bool xs] 48)).drew = W2 := ⟨_, rfl⟩
        rw [hW2]
        obtain ⟨h1, h2, h3⟩ := two_new wr s #[.int .i64 xk, .slice yA xN yC, .int .i64 xu, .int .i64 xr, .int .i64 xp, .bool xs] #[.int .i64 xk, .slice xA xN xC, .int .i64 xu, .int .i64 xr, .int .i64 xp, .bool xs] hs
        rw [hW2] at h1 h2 h3
        clear hW2 c5a c5b d5a d5b e0a e0b e1a e1b e2a e2b e3a e3b e4a e4b e5a e5b z0a z0b z1a z1b z2a z2b z3a z3b z4a z4b z5a z5b c5 d5 e0 e1 e2 e3 e4 e5 z0 z1 z2 z3 z4 z5 hs
        obtain ⟨x0, x1, x2, x3, x4, x5⟩ := h2.six
        obtain ⟨y0, y1, y2, y3, y4, y5⟩ := h1.six
        have HB2 := Lib.hid (HB.out.trans (h3.mono HB.out.size)); have HP12 := Lib.hid (HP1.out.below h3 HP1.out.lt); have HP22 := Lib.hid (HP2.out.below h3 HP2.out.lt)
        have HST := Lib.hid (sameTexts_yes xA yA xN xC yC xz W2 (HOA.out.zs.below HB2.out) (HOB.out.zs.below HB2.out) HOA.out.len (Nat.le_trans HOA.out.cap HOA.out.max))
        clear h1 h2 h3
        go_wp2_with (go_at_call 16; (with_reducible refine HST.out.mono ?_); rintro e w4 ⟨rfl, hb4⟩; have HB4 := Lib.hid (HB2.out.trans (hb4.mono HB2.out.size)); have HP14 := Lib.hid (HP12.out.below hb4 HP12.out.lt); have HP24 := Lib.hid (HP22.out.below hb4 HP22.out.lt); clear hb4)
        go_roundw
        case rel => exact ⟨k + 1, by go_num, by omega, HB4, HP14, HP24⟩
        case measure => simp [intOf]; omega
    · obtain rfl : k = n := by omega
      go_wp2_with fail
      go_ret
      exact ⟨rfl, HB.out⟩
end Go.Proofs.Ythjckkcafhiomaa.Pd
