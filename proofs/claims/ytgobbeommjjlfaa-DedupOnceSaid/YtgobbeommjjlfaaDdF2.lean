/- Walk: the closure of records.Divide, as dedup.Filter makes it. -/
import Derived.Test.YtgobbeommjjlfaaDdF1
namespace Go.Proofs.Ytgobbeommjjlfaa.Va
open Go.RowKit

theorem heap_lt {w : World} {g : Nat} {o : Obj} (h : w.heap[g]? = some o) : g < w.heap.size := (Array.getElem?_eq_some_iff.1 h).1
theorem chg_cell {w w' : World} {g i : Nat} {u : Value} (h : Chg (fun b => b = g) w w') : Chg (fun b => b = g) w (w'.setCell ⟨g, i, none⟩ u) :=
  ⟨h.os, h.tape, h.output, by simpa [World.setCell] using h.size, fun k hk hne => (Below.heap_setCell w' ⟨g, i, none⟩ u k hne).trans (h.block k hk hne)⟩
theorem results_cell2 {P : Program} {fn : Func} {p u : Tmp} {ty : TypeId} (h : fn.results = #[.cell p ty, .tmp u]) (tmps : Array Value) (w : World) (g : Nat) (t : TypeId) (cs : Array Value) (fr : Nat × Nat) (d : TypeDesc)
    (hp : tmps.getD p undef = .pointer (some ⟨g, 0, none⟩)) (hg : w.heap[g]? = some (.cells cs t fr))
    (hu : P.underlying ty = some d) (hd : (match d with | .struct _ | .array _ _ => true | _ => false) = true) (hi : (P.info? ty).map (·.size) = some cs.size) :
    (results fn tmps).run P w = .ok (.tuple #[.agg cs, tmps.getD u undef]) w := by
  have hp' : tmps[p]?.getD undef = .pointer (some ⟨g, 0, none⟩) := by simpa using hp
  simp [results, h, hp', asAddr, run_loadVar_row w g t ty cs fr d hg hu hd hi]
theorem put12 {w : World} {g : Nat} {r0 : Rc} (s0 : Int) (s1 : Int) (s2 : Int) (sa : ByteArray) (sb : ByteArray) (s5 : Int) (s6 : Int) (s7 : Int) (s8 : Int) (b9 : Bool) (s10 : Int) (b11 : Bool) (h : RcB w g r0) : RcB ((((((((((((w.setCell ⟨g, 0, none⟩ (.int .i64 s0)).setCell ⟨g, 1, none⟩ (.int .i64 s1)).setCell ⟨g, 2, none⟩ (.int .i64 s2)).setCell ⟨g, 3, none⟩ (.string sa)).setCell ⟨g, 4, none⟩ (.string sb)).setCell ⟨g, 5, none⟩ (.int .i64 s5)).setCell ⟨g, 6, none⟩ (.int .i64 s6)).setCell ⟨g, 7, none⟩ (.int .i64 s7)).setCell ⟨g, 8, none⟩ (.int .i64 s8)).setCell ⟨g, 9, none⟩ (.bool b9)).setCell ⟨g, 10, none⟩ (.int .i64 s10)).setCell ⟨g, 11, none⟩ (.bool b11)) g ⟨s0, s1, s2, sa, sb, s5, s6, s7, s8, b9, s10, b11⟩ := by
  unfold RcB Rc.cells at *
  simp [World.setCell, Array.getElem?_modify, h]
set_option maxRecDepth 100000 in
set_option maxHeartbeats 4000000 in
theorem divide1_f (r : Rc) (z : Int) (p q : Nat) (G : Nat → Prop) (Post : World → World → Prop) (w : World) (hP : Blk w p 55 #[.func (.func 35) #[] #[.pointer (some ⟨q, 0, none⟩)]]) (hG : ∀ b, G b → b < w.heap.size) (hpG : ¬ G p)
    (hF : ∀ W, Below w.heap.size w W → Calls Try.prog 35 #[.agg r.cells, .pointer (some ⟨q, 0, none⟩)] W fun e w' => e = .returned (.int .i64 z) ∧ Post W w' ∧ Chg G W w') :
    Calls Try.prog 42 #[.agg r.cells, .pointer (some ⟨p, 0, none⟩)] w fun e w' => e = .returned (.tuple #[.agg r.cells, .int .i64 z]) ∧ ∃ W w1, Below w.heap.size w W ∧ w.heap.size + 1 < W.heap.size ∧ Post W w1 ∧ Chg G W w1 ∧ Chg (fun b => b = w.heap.size + 1) w1 w' := by
  have HCL := Lib.hid hF
  have HGG := Lib.hid hG; have HPG := Lib.hid hpG
  have HX0 : Hid (RcB (w.alloc (.cells r.cells 40)) w.heap.size r) := Lib.hid (heap_alloc_new w _)
  obtain ⟨s0, s1, s2, sa, sb, s5, s6, s7, s8, b9, s10, b11⟩ := r
  have hb0 : Below w.heap.size w ((w.alloc (.cells #[.int .i64 s0, .int .i64 s1, .int .i64 s2, .string sa, .string sb, .int .i64 s5, .int .i64 s6, .int .i64 s7, .int .i64 s8, .bool b9, .int .i64 s10, .bool b11] 40)).alloc (.cells #[.int .i64 0, .int .i64 0, .int .i64 0, .string ⟨#[]⟩, .string ⟨#[]⟩, .int .i64 0, .int .i64 0, .int .i64 0, .int .i64 0, .bool false, .int .i64 0, .bool false] 40)) := ((Below.refl _ w).alloc (Nat.le_refl _) _).alloc (by simp) _
  have HP := Lib.hid (hP.below hb0 hP.lt)
  have HX : Hid (RcB ((w.alloc (.cells #[.int .i64 s0, .int .i64 s1, .int .i64 s2, .string sa, .string sb, .int .i64 s5, .int .i64 s6, .int .i64 s7, .int .i64 s8, .bool b9, .int .i64 s10, .bool b11] 40)).alloc (.cells #[.int .i64 0, .int .i64 0, .int .i64 0, .string ⟨#[]⟩, .string ⟨#[]⟩, .int .i64 0, .int .i64 0, .int .i64 0, .int .i64 0, .bool false, .int .i64 0, .bool false] 40)) w.heap.size ⟨s0, s1, s2, sa, sb, s5, s6, s7, s8, b9, s10, b11⟩) := Lib.hid (HX0.out.below ((Below.refl _ _).alloc (Nat.le_refl _) _) (by simp))
  have HY : Hid (RcB ((w.alloc (.cells #[.int .i64 s0, .int .i64 s1, .int .i64 s2, .string sa, .string sb, .int .i64 s5, .int .i64 s6, .int .i64 s7, .int .i64 s8, .bool b9, .int .i64 s10, .bool b11] 40)).alloc (.cells #[.int .i64 0, .int .i64 0, .int .i64 0, .string ⟨#[]⟩, .string ⟨#[]⟩, .int .i64 0, .int .i64 0, .int .i64 0, .int .i64 0, .bool false, .int .i64 0, .bool false] 40)) (w.heap.size + 1) rc0) := Lib.hid (by have h := heap_alloc_new (w.alloc (.cells #[.int .i64 s0, .int .i64 s1, .int .i64 s2, .string sa, .string sb, .int .i64 s5, .int .i64 s6, .int .i64 s7, .int .i64 s8, .bool b9, .int .i64 s10, .bool b11] 40)) (.cells #[.int .i64 0, .int .i64 0, .int .i64 0, .string ⟨#[]⟩, .string ⟨#[]⟩, .int .i64 0, .int .i64 0, .int .i64 0, .int .i64 0, .bool false, .int .i64 0, .bool false] 40); rw [World.size_alloc] at h; exact h)
  have hpl := hP.lt
  obtain ⟨g, hg⟩ : ∃ g, w.heap.size = g := ⟨_, rfl⟩
  rw [hg] at hpl HX HY
  have HG := Lib.hid hg
  have HB0 := Lib.hid hb0
  obtain ⟨L, hL⟩ : ∃ L, (w.alloc (.cells #[.int .i64 s0, .int .i64 s1, .int .i64 s2, .string sa, .string sb, .int .i64 s5, .int .i64 s6, .int .i64 s7, .int .i64 s8, .bool b9, .int .i64 s10, .bool b11] 40)).alloc (.cells #[.int .i64 0, .int .i64 0, .int .i64 0, .string ⟨#[]⟩, .string ⟨#[]⟩, .int .i64 0, .int .i64 0, .int .i64 0, .int .i64 0, .bool false, .int .i64 0, .bool false] 40) = L := ⟨_, rfl⟩
  rw [hL] at HP HX HY HB0
  have HLS : Hid (g + 1 < L.heap.size) := Lib.hid (by rw [← hL, ← hg]; simp)
  unfold Rc.cells at HCL ⊢
  simp only at HCL ⊢
  obtain ⟨c0, c1, c2, c3, c4, c5, c6, c7, c8, c9, c10, c11⟩ := HX.out.cells
  obtain ⟨y0, y1, y2, y3, y4, y5, y6, y7, y8, y9, y10, y11⟩ := HY.out.cells
  have hp0 := HP.out.one
  have hyf : ∀ i, L.frozen? ⟨g + 1, i, none⟩ = false := fun i => by have := HY.out; unfold RcB at this; simp [World.frozen?, this]
  have f0 := hyf 0; have f1 := hyf 1; have f2 := hyf 2; have f3 := hyf 3; have f4 := hyf 4; have f5 := hyf 5; have f6 := hyf 6; have f7 := hyf 7; have f8 := hyf 8; have f9 := hyf 9; have f10 := hyf 10; have f11 := hyf 11
  clear hP hb0 hyf HX0 hF hG hpG
  go_enter Try.func42, Try.ntmps42
  go_wp2_with fail
  try rw [hL]
  clear hL hg
  have hgp : g + 1 ≠ p := by omega
  go_region_held3 (fun w' => w'.cell? ⟨g, 0, none⟩ = some (.int .i64 s0) ∧ w'.cell? ⟨g, 1, none⟩ = some (.int .i64 s1) ∧ w'.cell? ⟨g, 2, none⟩ = some (.int .i64 s2) ∧ w'.cell? ⟨g, 3, none⟩ = some (.string sa) ∧ w'.cell? ⟨g, 4, none⟩ = some (.string sb) ∧ w'.cell? ⟨g, 5, none⟩ = some (.int .i64 s5) ∧ w'.cell? ⟨g, 6, none⟩ = some (.int .i64 s6) ∧ w'.cell? ⟨g, 7, none⟩ = some (.int .i64 s7) ∧ w'.cell? ⟨g, 8, none⟩ = some (.int .i64 s8) ∧ w'.cell? ⟨g, 9, none⟩ = some (.bool b9) ∧ w'.cell? ⟨g, 10, none⟩ = some (.int .i64 s10) ∧ w'.cell? ⟨g, 11, none⟩ = some (.bool b11) ∧ w'.cell? ⟨p, 0, none⟩ = some (.func (.func 35) #[] #[.pointer (some ⟨q, 0, none⟩)])) (go_keep)
    (first
      | (go_at_call 35; (with_reducible refine (HCL.out _ HB0.out.drew).mono ?_); rintro e w1 ⟨rfl, hpo, hch⟩; have hnG : ∀ b, g ≤ b → ¬ G b := (fun b h1 h2 => by have := HGG.out b h2; have := HG.out; omega); have hbk : ∀ b, b < L.heap.size → ¬ G b → w1.heap[b]? = L.heap[b]? := (fun b h1 h2 => hch.block b h1 h2); obtain ⟨d0, d1, d2, d3, d4, d5, d6, d7, d8, d9, d10, d11⟩ := (show RcB w1 g _ from (hbk g (by have := HLS.out; omega) (hnG g (Nat.le_refl _))).trans HX.out).cells; have hp1 := (show Blk w1 p _ _ from (hbk p HP.out.lt HPG.out).trans HP.out).one; have HY1 : RcB w1 (g + 1) rc0 := (hbk (g + 1) HLS.out (hnG (g + 1) (by omega))).trans HY.out; obtain ⟨z0, z1, z2, z3, z4, z5, z6, z7, z8, z9, z10, z11⟩ := HY1.cells; have hyf1 : ∀ i, w1.frozen? ⟨g + 1, i, none⟩ = false := (fun i => by have := HY1; unfold RcB at this; simp [World.frozen?, this]); have h0 := hyf1 0; have h1 := hyf1 1; have h2 := hyf1 2; have h3 := hyf1 3; have h4 := hyf1 4; have h5 := hyf1 5; have h6 := hyf1 6; have h7 := hyf1 7; have h8 := hyf1 8; have h9 := hyf1 9; have h10 := hyf1 10; have h11 := hyf1 11; have HYY := Lib.hid HY1; have HPO := Lib.hid hpo; have HCH := Lib.hid hch; clear hyf1 HY1 hpo hch hbk hnG))
  go_wp2_with fail
  have hx := put12 s0 s1 s2 sa sb s5 s6 s7 s8 b9 s10 b11 HYY.out
  have hgw : w.heap.size + 1 = g + 1 := by have := HG.out; omega
  refine bodyPost_ret (v := .tuple #[.agg (Rc.cells ⟨s0, s1, s2, sa, sb, s5, s6, s7, s8, b9, s10, b11⟩), .int .i64 z]) (results_cell2 (p := 3) (u := 4) rfl _ _ (g + 1) 40 (Rc.cells ⟨s0, s1, s2, sa, sb, s5, s6, s7, s8, b9, s10, b11⟩) (0, 0) _ rfl hx Try.underlying40 rfl rfl) rfl ⟨rfl, L.drew, w1, HB0.out.drew, ?_, HPO.out, HCH.out, ?_⟩
  · rw [hgw]; exact HLS.out
  · rw [hgw]
    repeat' apply chg_cell
    exact Chg.refl _ _
end Go.Proofs.Ytgobbeommjjlfaa.Va
