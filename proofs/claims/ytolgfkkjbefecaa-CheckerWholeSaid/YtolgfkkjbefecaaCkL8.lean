/- Walk of the law on Covered. -/
import Derived.Test.YtolgfkkjbefecaaCkL7
import Derived.Test.YtolgfkkjbefecaaCkCv
namespace Go.Proofs.Ytolgfkkjbefecaa
open Go.RowKit Ck Go.Lib

namespace Ck
theorem covered_is {t : Tf} {kind : Int} {v : Bool} (h : covE t kind = v) (w : World) (hN : TfN t) (hT : TfR w t) (hB : TfB t) : Calls Try.prog 19 #[.agg t.cells, .int .i64 kind] w fun e w' => e = .returned (.bool v) ∧ Below w.heap.size w w' := by
  subst h; exact covered_any t kind w hN hT hB
theorem refCovered_is {t : Tf} {kind : Int} {v : Bool} (h : covE t kind = v) (w : World) (hN : TfN t) (hT : TfR w t) (hz : t.zn ≤ 70) : Calls Try.prog 20 #[.agg t.cells, .int .i64 kind] w fun e w' => e = .returned (.bool v) ∧ Below w.heap.size w w' := by
  subst h; exact refCovered_any t kind w hN hT hz
end Ck
set_option maxRecDepth 100000 in
set_option maxHeartbeats 16000000 in
theorem walkCheckerCovers (t : Tf) (kind : Int) (w : World) (hN : TfN t) (hT : TfR w t) (hB : TfB t) (_ : TfZ t) :
    Calls Try.prog 8 #[.agg t.cells, .int .i64 kind] w fun e w' => e = .returned (.bool true) ∧ Below w.heap.size w w' := by
  obtain ⟨W1, hW1⟩ : ∃ W, w.alloc (.cells t.cells 39) = W := ⟨_, rfl⟩
  obtain ⟨g, hg⟩ : ∃ g, w.heap.size = g := ⟨_, rfl⟩
  have hbk : Blk W1 g 39 t.cells := hW1 ▸ hg ▸ Blk.new w _ _
  have hb1 : Below w.heap.size w W1 := hW1 ▸ below_one w _
  have HB1 := Lib.hid hb1; have HBK := Lib.hid hbk
  have HT := Lib.hid (hT.below hb1)
  have HSM := Lib.hid (smallT_any t W1 hN HT.out hB)
  obtain ⟨tv, htv⟩ : ∃ v, covE t kind = v := ⟨_, rfl⟩
  have HC1 := Lib.hid (fun (W : World) (h : TfR W t) => covered_is htv W hN h hB)
  have HC2 := Lib.hid (fun (W : World) (hz : t.zn ≤ 70) (h : TfR W t) => refCovered_is htv W hN h hz)
  obtain ⟨tnm, tfr, tsp, ZA, zln, zcp, zl, BA, bln, bcp, bl, RA, rn, rc, rl, DA, dn, dc, dl⟩ := t
  simp only [Tf.cells] at HBK hW1 HSM HC1 HC2 ⊢
  obtain ⟨a0, a1, a2, a3, a4, a5, a6⟩ := seven HBK.out
  clear hN hT hB hbk hb1 htv
  go_enter Try.func8, Try.ntmps8
  go_wp2_with fail
  refine HSM.out.mono ?_
  rintro e w1 ⟨v, rfl, hv, hb1⟩
  have HBX := Lib.hid hb1
  clear hb1 a0 a1 a2 a3 a4 a5 a6
  obtain ⟨a0, a1, a2, a3, a4, a5, a6⟩ := seven (HBK.out.below HBX.out HBK.out.lt)
  cases v
  · clear hv
    go_wp2_with (go_at_call 11; (with_reducible refine (awake_any _).mono ?_); rintro e w3 ⟨rfl, hb3⟩; have HB3 := Lib.hid (HBX.out.trans (hb3.mono HBX.out.size)); clear hb3)
    go_ret
    exact ⟨rfl, HB1.out.trans (HB3.out.mono HB1.out.size)⟩
  · have hz := (hv rfl).2.1
    simp only at hz
    have HT1 := HT.out.below HBX.out
    have HD1 := Lib.hid (fun (d : Nat) (os : Array Obj) => HC1.out (Go.Sort.grow (redrawn w1 d) os) (HT1.below (below_regrown _ _ _)))
    have HD2 := Lib.hid (fun (d : Nat) (os : Array Obj) => HC2.out (Go.Sort.grow (redrawn w1 d) os) hz (HT1.below (below_regrown _ _ _)))
    have HAW := Lib.hid (fun (d : Nat) (os : Array Obj) => awake_any (Go.Sort.grow (redrawn w1 d) os))
    have g0 := fun d os => cell_regrown a0 d os
    have g1 := fun d os => cell_regrown a1 d os
    have g2 := fun d os => cell_regrown a2 d os
    have g3 := fun d os => cell_regrown a3 d os
    have g4 := fun d os => cell_regrown a4 d os
    have g5 := fun d os => cell_regrown a5 d os
    have g6 := fun d os => cell_regrown a6 d os
    clear HT1 hv hz
    go_wp2_with fail
    cases tv
    all_goals
      refine wp_region_quiet_below (by kernel_rfl) (by kernel_rfl) ?_
      iterate 11 (go_big_quiet_step (first | (with_reducible exact Calls.regrown_of (HD1.out _ _)) | (with_reducible exact Calls.regrown_of (HD2.out _ _)) | (with_reducible exact Calls.regrown_of (HAW.out _ _))))
      refine wpQuiet_nil ?_
      intro Wq hw'
      have HBQ : Hid (Below w1.heap.size w1 Wq) := Lib.hid (by obtain ⟨⟨dq, osq⟩, hw''⟩ := hw'; rw [hw'']; exact below_regrown _ _ _)
      clear hw'
      go_wp2_with fail
      go_ret
      exact ⟨rfl, HB1.out.trans ((HBX.out.trans (HBQ.out.mono HBX.out.size)).mono HB1.out.size)⟩
end Go.Proofs.Ytolgfkkjbefecaa
