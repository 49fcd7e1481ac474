/- Walks: the header of the file of a batch without records. -/
import Derived.Test.YtobkafkknbdacaaDoorBaG
import Derived.RegionTactic
namespace Go.Proofs.YtobkafkknbdacaaDoor.Va
open Go.RowKit

theorem results_cell3 {P : Program} {fn : Func} {p u t : Tmp} {ty : TypeId} (h : fn.results = #[.cell p ty, .tmp u, .tmp t]) (tmps : Array Value) (w : World) (g : Nat) (tt : TypeId) (cs : Array Value) (fr : Nat × Nat) (d : TypeDesc)
    (hp : tmps.getD p undef = .pointer (some ⟨g, 0, none⟩)) (hg : w.heap[g]? = some (.cells cs tt fr))
    (hu : P.underlying ty = some d) (hd : (match d with | .struct _ | .array _ _ => true | _ => false) = true) (hi : (P.info? ty).map (·.size) = some cs.size) :
    (results fn tmps).run P w = .ok (.tuple #[.agg cs, tmps.getD u undef, tmps.getD t undef]) w := by
  have hp' : tmps[p]?.getD undef = .pointer (some ⟨g, 0, none⟩) := by simpa using hp
  simp [results, h, hp', asAddr, run_loadVar_row w g tt ty cs fr d hg hu hd hi]
theorem results_cell2 {P : Program} {fn : Func} {p u : Tmp} {ty : TypeId} (h : fn.results = #[.cell p ty, .tmp u]) (tmps : Array Value) (w : World) (g : Nat) (tt : TypeId) (cs : Array Value) (fr : Nat × Nat) (d : TypeDesc)
    (hp : tmps.getD p undef = .pointer (some ⟨g, 0, none⟩)) (hg : w.heap[g]? = some (.cells cs tt fr))
    (hu : P.underlying ty = some d) (hd : (match d with | .struct _ | .array _ _ => true | _ => false) = true) (hi : (P.info? ty).map (·.size) = some cs.size) :
    (results fn tmps).run P w = .ok (.tuple #[.agg cs, tmps.getD u undef]) w := by
  have hp' : tmps[p]?.getD undef = .pointer (some ⟨g, 0, none⟩) := by simpa using hp
  simp [results, h, hp', asAddr, run_loadVar_row w g tt ty cs fr d hg hu hd hi]
theorem getNums4 {w : World} {A : Option Addr} {n c : Nat} (hA : Byt w A n c (listE [1, 1, 1, 0])) :
    Calls Tryd.prog 37 #[.slice A n c, .int .i64 4] w fun e w' => ∃ v, e = .returned (.tuple #[v, .int .i64 0]) ∧ w'.ownsRow w.heap.size 3 1 v 4 [.int .i64 1, .int .i64 1, .int .i64 1, .int .i64 0] ∧ Below w.heap.size w w' :=
  getNums_back (N := 4) hA (by decide) rfl (by decide)
theorem cut_fil : ∃ R, cutR (joinE [[2, 2, 2, 0], [], [0, 0, 0, 0, 0]]) = (listE [1, 1, 1, 0], (R, 0)) := by
  rw [l1]
  exact ⟨_, cutR_frm [2, 2, 2, 0] _ (by decide)⟩
set_option maxRecDepth 100000 in
set_option maxHeartbeats 16000000 in
theorem readHead_file {w : World} {A : Option Addr} {n c : Nat} (hA : Byt w A n c (joinE [[2, 2, 2, 0], [], [0, 0, 0, 0, 0]])) :
    Calls Tryd.prog 22 #[.slice A n c] w fun e w' => ∃ v, e = .returned (.tuple #[.agg #[.int .i64 1, .int .i64 1, .int .i64 1, .int .i64 0], v, .int .i64 0]) ∧ Below w.heap.size w w' := by
  obtain ⟨R, hR⟩ := cut_fil
  obtain ⟨b, hb⟩ : ∃ b, w.heap.size = b := ⟨_, rfl⟩
  obtain rfl : n = 24 := by rw [← hA.len, fil_len]
  obtain ⟨L, hL⟩ : ∃ L, w.alloc (.cells #[.int .i64 0, .int .i64 0, .int .i64 0, .int .i64 0] 41) = L := ⟨_, rfl⟩
  have hbl : Blk L b 41 #[.int .i64 0, .int .i64 0, .int .i64 0, .int .i64 0] := hL ▸ hb ▸ Blk.new w _ _
  have hB := (show Below w.heap.size w L from hL ▸ below_lit w _)
  have hu := unwrap_any (hA.below hB) (by omega)
  unfold UnwP at hu
  rw [hR] at hu
  have HU := Lib.hid hu
  have HB := Lib.hid hB; have HBL := Lib.hid hbl
  have HBS : Hid (w.heap.size = b) := Lib.hid hb
  have HCK := Lib.hid (chkHead_any 1 1 1 0)
  rw [show hdE 1 1 1 0 = 0 by decide] at HCK
  clear hA hbl hB hu hR
  go_enter Tryd.func22, Tryd.ntmps22
  go_upto_region 7 with (first
    | (go_at_call 36; (with_reducible refine HU.out.mono ?_); rintro e w1 ⟨v1, v2, rfl, ho1, ho2, hb1⟩; obtain ⟨A1, m1, c1, rfl, hm1, y1⟩ := ho1.bytm; have HY1 := Lib.hid y1; have HB1 := Lib.hid hb1; have HX1 := Lib.hid (HBL.out.below hb1 HBL.out.lt); clear ho1 ho2 hb1 hm1 y1)
    | (go_at_call 37; (with_reducible refine (getNums4 HY1.out).mono ?_); rintro e w2 ⟨v3, rfl, ho3, hb3⟩; obtain ⟨g3, c3, rfl, -, hg3⟩ := ho3.form (by decide); have n0 := ho3.cellAt 0 (by decide); have n1 := ho3.cellAt 1 (by decide); have n2 := ho3.cellAt 2 (by decide); have n3 := ho3.cellAt 3 (by decide); simp at n0 n1 n2 n3; have HB2 := Lib.hid (HB1.out.trans (hb3.mono HB1.out.size)); have HX2 := Lib.hid (HX1.out.below hb3 HX1.out.lt); have HG3 := Lib.hid hg3; clear ho3 hb3))
  have hng : ¬ g3 = w2.heap.size := by omega
  have hbA := below_lit w2 (.cells #[.int .i64 0, .int .i64 0, .int .i64 0, .int .i64 0] 41)
  have a0 := (hbA.cell (p := ⟨g3, 0, none⟩) hg3).trans n0
  have a1 := (hbA.cell (p := ⟨g3, 1, none⟩) hg3).trans n1
  have a2 := (hbA.cell (p := ⟨g3, 2, none⟩) hg3).trans n2
  have a3 := (hbA.cell (p := ⟨g3, 3, none⟩) hg3).trans n3
  have hz := Blk.new w2 41 #[.int .i64 0, .int .i64 0, .int .i64 0, .int .i64 0]
  have z0 := hz.cell 0; have z1 := hz.cell 1; have z2 := hz.cell 2; have z3 := hz.cell 3
  have zf := hz.frozen
  simp at z0 z1 z2 z3
  clear hbA hz
  go_region
  clear a0 a1 a2 a3 z0 z1 z2 z3 zf n0 n1 n2 n3 hng
  obtain ⟨g4, hg4⟩ : ∃ g4, w2.heap.size = g4 := ⟨_, rfl⟩
  have h4 : Blk ((w2.alloc (.cells #[.int .i64 1, .int .i64 1, .int .i64 1, .int .i64 0] 41)).drew) g4 41 #[.int .i64 1, .int .i64 1, .int .i64 1, .int .i64 0] := hg4 ▸ (Blk.new w2 _ _).drew
  have h2 : Blk ((w2.alloc (.cells #[.int .i64 1, .int .i64 1, .int .i64 1, .int .i64 0] 41)).drew) b 41 #[.int .i64 0, .int .i64 0, .int .i64 0, .int .i64 0] := (HX2.out.alloc _).drew
  have hB4 := (HB2.out.alloc HB2.out.size (.cells #[.int .i64 1, .int .i64 1, .int .i64 1, .int .i64 0] 41)).drew
  generalize hW : (w2.alloc (.cells #[.int .i64 1, .int .i64 1, .int .i64 1, .int .i64 0] 41)).drew = W4 at h4 h2 hB4 ⊢
  rw [hg4]
  have m0 := h4.cell 0; have m1 := h4.cell 1; have m2 := h4.cell 2; have m3 := h4.cell 3
  simp at m0 m1 m2 m3
  have HX4 := Lib.hid h4; have HXB := Lib.hid h2; have HB4 := Lib.hid hB4
  clear hW hg4 h4 h2 hB4 hg3
  go_wp2_with (go_at_call 13; (with_reducible refine (HCK.out _).mono ?_); rintro e w5 ⟨rfl, hb5⟩; have hx5 := HX4.out.below hb5 HX4.out.lt; have hy5 := HXB.out.below hb5 HXB.out.lt; have m0 := hx5.cell 0; have m1 := hx5.cell 1; have m2 := hx5.cell 2; have m3 := hx5.cell 3; have r0 := hy5.cell 0; have r1 := hy5.cell 1; have r2 := hy5.cell 2; have r3 := hy5.cell 3; have hfr := hy5.frozen; simp at m0 m1 m2 m3 r0 r1 r2 r3; have HY5 := Lib.hid hy5; have HB5 := Lib.hid (HB4.out.trans (hb5.mono HB4.out.size)); clear hb5 hx5 hy5)
  have hfin := HB.out.trans (HB5.out.mono HB.out.size)
  refine bodyPost_ret (v := .tuple #[.agg #[.int .i64 1, .int .i64 1, .int .i64 1, .int .i64 0], v2, .int .i64 0]) ?_ rfl ⟨v2, rfl, ?_⟩
  · exact results_cell3 (p := 2) (u := 3) (t := 4) rfl _ _ b 41 #[.int .i64 1, .int .i64 1, .int .i64 1, .int .i64 0] (0, 0) _ rfl (put4 HY5.out _ _ _ _) Tryd.underlying41 rfl rfl
  · exact keep4 hfin (by rw [HBS.out]; exact Nat.le_refl _) _ _ _ _
set_option maxRecDepth 100000 in
set_option maxHeartbeats 8000000 in
theorem headOf_file {w : World} {A : Option Addr} {n c : Nat} (hA : Byt w A n c (joinE [[2, 2, 2, 0], [], [0, 0, 0, 0, 0]])) :
    Calls Tryd.prog 12 #[.slice A n c] w fun e w' => e = .returned (.tuple #[.agg #[.int .i64 1, .int .i64 1, .int .i64 1, .int .i64 0], .int .i64 0]) ∧ Below w.heap.size w w' := by
  obtain ⟨b, hb⟩ : ∃ b, w.heap.size = b := ⟨_, rfl⟩
  obtain ⟨L, hL⟩ : ∃ L, w.alloc (.cells #[.int .i64 0, .int .i64 0, .int .i64 0, .int .i64 0] 41) = L := ⟨_, rfl⟩
  have hbl : Blk L b 41 #[.int .i64 0, .int .i64 0, .int .i64 0, .int .i64 0] := hL ▸ hb ▸ Blk.new w _ _
  have hB := (show Below w.heap.size w L from hL ▸ below_lit w _)
  have HRH := Lib.hid (readHead_file (hA.below hB))
  have HB := Lib.hid hB; have HBL := Lib.hid hbl
  have HBS : Hid (w.heap.size = b) := Lib.hid hb
  clear hA hbl hB
  go_enter Tryd.func12, Tryd.ntmps12
  go_wp2_with (go_at_call 22; (with_reducible refine HRH.out.mono ?_); rintro e w2 ⟨v2, rfl, hb2⟩; have hx2 := (HBL.out.below hb2 HBL.out.lt).alloc (.cells #[.int .i64 1, .int .i64 1, .int .i64 1, .int .i64 0] 41); have hn2 := Blk.new w2 41 #[.int .i64 1, .int .i64 1, .int .i64 1, .int .i64 0]; have m0 := hn2.cell 0; have m1 := hn2.cell 1; have m2 := hn2.cell 2; have m3 := hn2.cell 3; have r0 := hx2.cell 0; have r1 := hx2.cell 1; have r2 := hx2.cell 2; have r3 := hx2.cell 3; have hfr := hx2.frozen; simp at m0 m1 m2 m3 r0 r1 r2 r3; have HX2 := Lib.hid hx2; have HB2 := Lib.hid (HB.out.trans ((hb2.alloc hb2.size (.cells #[.int .i64 1, .int .i64 1, .int .i64 1, .int .i64 0] 41)).mono HB.out.size)); clear hb2 hx2 hn2)
  refine bodyPost_ret (v := .tuple #[.agg #[.int .i64 1, .int .i64 1, .int .i64 1, .int .i64 0], .int .i64 0]) ?_ rfl ⟨rfl, ?_⟩
  · exact results_cell2 (p := 2) (u := 3) rfl _ _ b 41 #[.int .i64 1, .int .i64 1, .int .i64 1, .int .i64 0] (0, 0) _ rfl (put4 HX2.out _ _ _ _) Tryd.underlying41 rfl rfl
  · exact keep4 HB2.out (by rw [HBS.out]; exact Nat.le_refl _) _ _ _ _
end Go.Proofs.YtobkafkknbdacaaDoor.Va
