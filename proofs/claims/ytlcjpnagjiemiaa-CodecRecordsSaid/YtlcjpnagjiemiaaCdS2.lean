/- Walks: what Record returns. -/
import Derived.Test.YtlcjpnagjiemiaaRows
import Derived.Test.YtlcjpnagjiemiaaCdS
import Derived.RegionTactic
namespace Go.Proofs.Ytlcjpnagjiemiaa
open Go.RowKit

theorem results_cell3 {P : Program} {fn : Func} {p u v : Tmp} {ty : TypeId} (h : fn.results = #[.cell p ty, .tmp u, .tmp v]) (tmps : Array Value) (w : World) (g : Nat) (t : TypeId) (cs : Array Value) (fr : Nat × Nat) (d : TypeDesc)
    (hp : tmps.getD p undef = .pointer (some ⟨g, 0, none⟩)) (hg : w.heap[g]? = some (.cells cs t fr))
    (hu : P.underlying ty = some d) (hd : (match d with | .struct _ | .array _ _ => true | _ => false) = true) (hi : (P.info? ty).map (·.size) = some cs.size) :
    (results fn tmps).run P w = .ok (.tuple #[.agg cs, tmps.getD u undef, tmps.getD v undef]) w := by
  have hp' : tmps[p]?.getD undef = .pointer (some ⟨g, 0, none⟩) := by simpa using hp
  simp [results, h, hp', asAddr, run_loadVar_row w g t ty cs fr d hg hu hd hi]

theorem heap_third (w : World) (a b c d : Obj) : ((((w.alloc a).alloc b).alloc c).alloc d).heap[w.heap.size + 1 + 1]? = some c := by
  rw [heap_alloc_old _ _ (by simp)]
  have := heap_alloc_new ((w.alloc a).alloc b) c
  rwa [show ((w.alloc a).alloc b).heap.size = w.heap.size + 1 + 1 by simp] at this
theorem heap_thirdD (w : World) (a b c d : Obj) : ((((w.alloc a).alloc b).alloc c).alloc d).drew.heap[w.heap.size + 1 + 1]? = some c := heap_third w a b c d
set_option maxRecDepth 100000 in
set_option maxHeartbeats 4000000 in
theorem resRec_err {A : Option Addr} {n c : Nat} {er : Int} {w : World} (r : Rc) (her : er ≠ 0) :
    Calls Try.prog 42 #[.agg #[.slice A n c, .int .i64 er], .agg r.cells] w fun e w' => e = .returned (.tuple #[.agg rc0.cells, .slice none 0 0, .int .i64 er]) ∧ Below w.heap.size w w' := by
  have he1 : (er == 0) = false := by simp [her]
  have he2 : (er != 0) = true := by simp [her]
  go_enter Try.func42, Try.ntmps42
  go_wp2_with fail
  go_region
  go_wp2
  refine bodyPost_ret (v := .tuple #[.agg rc0.cells, .slice none 0 0, .int .i64 er]) ?_ rfl ⟨rfl, ?_⟩
  · exact results_cell3 (p := 4) (u := 5) (v := 6) rfl _ _ (w.heap.size + 1 + 1) 40 rc0.cells (0, 0) _ rfl (heap_thirdD _ _ _ _ _) Try.underlying40 rfl rfl
  exact (((((Below.refl _ _).alloc (Nat.le_refl _) _).alloc (by simp) _).alloc (by simp; omega) _).alloc (by simp; omega) _).drew

set_option maxRecDepth 100000 in
set_option maxHeartbeats 4000000 in
theorem resRec_ok {A : Option Addr} {n c : Nat} {l : List Int} {w : World} (r : Rc) (hA : Byt w A n c l) (hn : n ≤ 1000000000) :
    Calls Try.prog 42 #[.agg #[.slice A n c, .int .i64 0], .agg r.cells] w fun e w' => ∃ v, e = .returned (.tuple #[.agg r.cells, v, .int .i64 0]) ∧ Own w' w.heap.size v l ∧ Below w.heap.size w w' := by
  obtain ⟨i0, hi0, hz0, hz1, hz2⟩ := info_parts byteInfo
  have hl := hA.len
  have hcl : (C8 l).length = n := by rw [C8_len, hl]
  have hin : (Try.prog.info? 5).map (·.size) = some 1 := by rw [hi0]; simp [hz1]
  obtain ⟨W3, hW3⟩ : ∃ W3, ((w.alloc (.cells #[.slice A n c, .int .i64 0] 54)).alloc (.cells r.cells 40)).alloc (.cells #[.int .i64 0, .int .i64 0, .int .i64 0, .string ⟨#[]⟩, .string ⟨#[]⟩, .int .i64 0, .int .i64 0, .int .i64 0, .int .i64 0, .bool false, .int .i64 0, .bool false] 40) = W3 := ⟨_, rfl⟩
  have h3 : Below w.heap.size w W3 := hW3 ▸ (((Below.refl _ _).alloc (Nat.le_refl _) _).alloc (by simp) _).alloc (by simp; omega) _
  have hs3 : W3.heap.size = w.heap.size + 3 := by rw [← hW3]; simp
  have hr0 : W3.cell? ⟨w.heap.size, 0, none⟩ = some (.slice A n c) := by
    have h := (heap_alloc_old ((w.alloc (.cells #[.slice A n c, .int .i64 0] 54)).alloc (.cells r.cells 40)) (.cells rc0.cells 40) (r := w.heap.size) (by simp; omega)).trans ((heap_alloc_old _ _ (by simp)).trans (heap_alloc_new w (.cells #[.slice A n c, .int .i64 0] 54)))
    have h' : W3.heap[w.heap.size]? = some (.cells #[.slice A n c, .int .i64 0] 54) := by rw [← hW3]; exact h
    simp [World.cell?, h']
  have hr1 : W3.cell? ⟨w.heap.size, 1, none⟩ = some (.int .i64 0) := by
    have h := (heap_alloc_old ((w.alloc (.cells #[.slice A n c, .int .i64 0] 54)).alloc (.cells r.cells 40)) (.cells rc0.cells 40) (r := w.heap.size) (by simp; omega)).trans ((heap_alloc_old _ _ (by simp)).trans (heap_alloc_new w (.cells #[.slice A n c, .int .i64 0] 54)))
    have h' : W3.heap[w.heap.size]? = some (.cells #[.slice A n c, .int .i64 0] 54) := by rw [← hW3]; exact h
    simp [World.cell?, h']
  have hb1 : RcB W3 (w.heap.size + 1) r := by
    have h1 := heap_alloc_new (w.alloc (.cells #[.slice A n c, .int .i64 0] 54)) (.cells r.cells 40)
    rw [show (w.alloc (.cells #[.slice A n c, .int .i64 0] 54)).heap.size = w.heap.size + 1 by simp] at h1
    unfold RcB
    rw [← hW3]
    exact (heap_alloc_old _ _ (by simp)).trans h1
  have hb2 : RcB W3 (w.heap.size + 1 + 1) rc0 := by
    have h1 := heap_alloc_new ((w.alloc (.cells #[.slice A n c, .int .i64 0] 54)).alloc (.cells r.cells 40)) (.cells rc0.cells 40)
    rw [show ((w.alloc (.cells #[.slice A n c, .int .i64 0] 54)).alloc (.cells r.cells 40)).heap.size = w.heap.size + 1 + 1 by simp] at h1
    unfold RcB
    rw [← hW3]; exact h1
  have HI := Lib.hid hin; have H3 := Lib.hid h3; have HCL := Lib.hid hcl; have HL := Lib.hid hl; have HB1 := Lib.hid hb1; have HB2 := Lib.hid hb2
  have HA := Lib.hid (hA.below h3); have HR := Lib.hid hA.ran; have HS := Lib.hid hs3; have HR0 := Lib.hid hr0
  clear hA h3 hin hcl hl hb1 hb2 hs3
  go_enter Try.func42, Try.ntmps42
  go_wp2_with (first
    | (at_make; refine wpList_make_full _ rfl _ _ 22 rfl W3.heap.size 5 i0 (.int .u8 0) 1 Try.underlying22 hi0 hz0 hz1 _ _ _ _ n rfl rfl rfl rfl (by rw [hz2]; omega) (by unfold maxLen; omega) (Nat.le_refl _) ?_; intro w1 hown0 hg0; have hbm : Below W3.heap.size W3 w1 := ((Below.refl _ _).grown hg0 (Nat.le_refl _) (fun g hg' => by cases hg')); have hq0 : w1.cell? ⟨w.heap.size, 0, none⟩ = some (.slice A n c) := (hbm.cell (p := ⟨w.heap.size, 0, none⟩) (by have := HS.out; show w.heap.size < _; omega)).trans HR0.out; have HF := Lib.hid (own_full hown0); have HBM := Lib.hid hbm; clear hown0 hg0 hbm)
    | (refine wpList_copy_splice rfl (.tmp 19) (.tmp 21) 22 22 rfl 5 Try.underlying22 HI.out _ _ _ _ _ _ rfl rfl _ 0 _ 5 HF.out.2.1 (C8 l) (by rw [HCL.out]; exact (Nat.min_self n).symm) (fun hp => ⟨rfl, (HA.out.below HBM.out).src hp⟩) (by rw [HCL.out]; simp [madeCells]) (C8_one l) W3.heap.size W3 HBM.out HF.out.1 ?_; intro w2 hg2 hb2; have HB := Lib.hid hb2; have X1 := HB1.out.below hb2 (by have := HS.out; omega); have X2 := HB2.out.below hb2 (by have := HS.out; omega); obtain ⟨p0, p1, p2, p3, p4, p5, p6, p7, p8, p9, p10, p11⟩ := X1.cells; obtain ⟨q0, q1, q2, q3, q4, q5, q6, q7, q8, q9, q10, q11⟩ := X2.cells; have hfr := X2.fr; have HX2 := Lib.hid X2; clear X1 X2 hb2))
  refine bodyPost_ret (v := .tuple #[.agg r.cells, .slice (some ⟨W3.heap.size, 0, none⟩) n n, .int .i64 0]) ?_ rfl ⟨_, rfl, ⟨?_, HR.out⟩, ?_⟩
  · exact results_cell3 (p := 4) (u := 5) (v := 6) rfl _ _ (w.heap.size + 1 + 1) 40 r.cells (0, 0) _ rfl (HX2.out.put r) Try.underlying40 rfl rfl
  · rw [HL.out]
    have h2 := hg2.out
    rw [splice_all (by rw [HCL.out]; simp [madeCells])] at h2
    have hown := own_of (base := W3.heap.size) HF.out.1 h2 HF.out.2.2 HCL.out
    refine own_mono (b := W3.heap.size) ?_ (by have := HS.out; omega)
    repeat' apply ownsRow_setCell_below
    all_goals first | exact hown | (have := HS.out; show w.heap.size + 1 + 1 < _; omega)
  · repeat' apply Below.setCell
    all_goals first | exact H3.out.trans (HB.out.mono (by have := HS.out; omega)) | (show w.heap.size ≤ w.heap.size + 1 + 1; omega)
end Go.Proofs.Ytlcjpnagjiemiaa
