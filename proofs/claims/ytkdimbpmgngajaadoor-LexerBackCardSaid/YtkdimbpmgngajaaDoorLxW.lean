/- Walks: what Scan defers, and Scan. -/
import Derived.Test.YtkdimbpmgngajaaDoorLxS
import Derived.Defers
import Derived.Recover
import Derived.RegionTactic
namespace Go.Proofs.YtkdimbpmgngajaaDoor.Lx
open Go Go.Lib Go.RowKit Go.Proofs.YtkdimbpmgngajaaDoor Go.Maps

theorem assert_yes (x : TypeId) (v : Value) (w : World) : (Instr.typeAssert (.iface 41 v) x 41 true).run Tryd.prog w = .ok (.tuple #[v, .bool true]) w := by kernel_rfl
theorem assert_nil (x : TypeId) (w : World) : (Instr.typeAssert .nilIface x 41 true).run Tryd.prog w = .ok (.tuple #[.agg #[.int .i64 0, .int .i64 0], .bool false]) w := by kernel_rfl
theorem wp_tmps {P : Program} {c : Code} {Q : Exit → Act → World → Prop} {t t' : Array Value} {d : List Deferred} {w : World} (h : t' = t) (k : Code.wp P c Q ⟨t, d⟩ w) : Code.wp P c Q ⟨t', d⟩ w := h ▸ k
/-- The two results that the closure holds. -/
structure Rs (w : World) (a b : Nat) (x y : Int) : Prop where
  ca : w.cell? ⟨a, 0, none⟩ = some (.int .i64 x)
  cb : w.cell? ⟨b, 0, none⟩ = some (.int .i64 y)
  fa : w.frozen? ⟨a, 0, none⟩ = false
  fb : w.frozen? ⟨b, 0, none⟩ = false
set_option maxRecDepth 100000 in
set_option maxHeartbeats 4000000 in
theorem catch_panicking (a b : Nat) (p n : Nat) (x y : Int) (w : World) (h : Rs w a b x y) (hab : a ≠ b) :
    CallsD Tryd.prog 21 #[.pointer (some ⟨a, 0, none⟩), .pointer (some ⟨b, 0, none⟩)] (.panicking (fx p n)) w fun e u' w' =>
      e = .returned (.tuple #[]) ∧ u' = .panicking [{ v := .iface 41 (.agg #[.int .i64 p, .int .i64 n]), recovered := true }] ∧ Rs w' a b p n ∧ (∀ B, B ≤ w.heap.size → B ≤ a → B ≤ b → Below B w w') := by
  have hal : a < w.heap.size := cell_block_lt h.ca
  have hbl : b < w.heap.size := cell_block_lt h.cb
  refine callsD_of_wpS Tryd.func21 rfl fun c₀ cs hu => ?_
  unfold fx at hu
  apply wpS_seq
  apply wpS_region
  simp [wpOpsS, go_sem, recoverD, hu, Tryd.ntmps21, Exit.thenS, assert_yes]
  apply wpS_seq
  apply wpS_region
  simp [wpOpsS, go_sem, Exit.thenS]
  refine wpS_cond (t := true) (by simp [Act.eval, Array.replicate]) ?_
  simp only [if_true]
  refine wpS_of_wp ?_
  obtain ⟨W, hW⟩ : ∃ W, w.alloc (.cells #[.int .i64 p, .int .i64 n] 41) = W := ⟨_, rfl⟩
  have hb : Below w.heap.size w W := hW ▸ below_one w _
  have c0 : W.cell? ⟨w.heap.size, 0, none⟩ = some (.int .i64 p) := hW ▸ cell_of_row _ _ 0 _ _ (0, 0) (heap_alloc_new w _)
  have c1 : W.cell? ⟨w.heap.size, 1, none⟩ = some (.int .i64 n) := hW ▸ cell_of_row _ _ 1 _ _ (0, 0) (heap_alloc_new w _)
  have a0 := (hb.cell (p := ⟨a, 0, none⟩) hal).trans h.ca
  have b0 := (hb.cell (p := ⟨b, 0, none⟩) hbl).trans h.cb
  have fa := (hb.frozen (p := ⟨a, 0, none⟩) hal).trans h.fa
  have fb := (hb.frozen (p := ⟨b, 0, none⟩) hbl).trans h.fb
  have hba : b ≠ a := Ne.symm hab
  have hHa : w.heap.size ≠ a := Nat.ne_of_gt hal
  have hHb : w.heap.size ≠ b := Nat.ne_of_gt hbl
  have haH : a ≠ w.heap.size := Nat.ne_of_lt hal
  have hbH : b ≠ w.heap.size := Nat.ne_of_lt hbl
  rw [hW]
  generalize hH : w.heap.size = H at *
  refine wp_tmps (t := #[.pointer (some ⟨a, 0, none⟩), .pointer (some ⟨b, 0, none⟩), .pointer (some ⟨H, 0, none⟩), .bool true, .tuple #[.agg #[.int .i64 p, .int .i64 n], .bool true], .iface 41 (.agg #[.int .i64 p, .int .i64 n]), .tuple #[.agg #[.int .i64 p, .int .i64 n], .bool true], .agg #[.int .i64 p, .int .i64 n], .bool true, .bool true, undef, undef, undef, undef]) (by kernel_rfl) ?_
  go_region
  refine ⟨rfl, _, rfl, .tuple #[], ?_, rfl, rfl, ?_, ?_⟩
  · exact results_none rfl _ _ _
  · refine ⟨?_, ?_, ?_, ?_⟩
    · simp [go_sem, a0, b0, hab, hba, fa, fb]
    · simp [go_sem, a0, b0, hab, hba, fa, fb]
    · simp [go_sem, a0, b0, hab, hba, fa, fb]
    · simp [go_sem, a0, b0, hab, hba, fa, fb]
  · intro B h1 h2 h3
    exact (((hb.mono h1).setCell h2 _).setCell h3 _).drew
set_option maxRecDepth 100000 in
set_option maxHeartbeats 4000000 in
theorem catch_idle (a b : Nat) (x y : Int) (w : World) (h : Rs w a b x y) :
    CallsD Tryd.prog 21 #[.pointer (some ⟨a, 0, none⟩), .pointer (some ⟨b, 0, none⟩)] .returning w fun e u' w' =>
      e = .returned (.tuple #[]) ∧ u' = .returning ∧ Rs w' a b x y ∧ Below w.heap.size w w' := by
  have hal : a < w.heap.size := cell_block_lt h.ca
  have hbl : b < w.heap.size := cell_block_lt h.cb
  refine callsD_of_wpS Tryd.func21 rfl fun c₀ cs hu => ?_
  apply wpS_seq
  apply wpS_region
  simp [wpOpsS, go_sem, recoverD, hu, Tryd.ntmps21, Exit.thenS, assert_nil]
  apply wpS_seq
  apply wpS_region
  simp [wpOpsS, go_sem, Exit.thenS]
  refine wpS_cond (t := false) (by simp [Act.eval, Array.replicate]) ?_
  simp only [Bool.false_eq_true, if_false]
  refine wpS_of_wp (wp_skip ?_)
  have hb : Below w.heap.size w (w.alloc (.cells #[.int .i64 0, .int .i64 0] 41)) := below_one w _
  refine ⟨rfl, _, by rw [← hu], .tuple #[], results_none rfl _ _ _, rfl, rfl, ?_, hb⟩
  exact ⟨(hb.cell (p := ⟨a, 0, none⟩) hal).trans h.ca, (hb.cell (p := ⟨b, 0, none⟩) hbl).trans h.cb, (hb.frozen (p := ⟨a, 0, none⟩) hal).trans h.fa, (hb.frozen (p := ⟨b, 0, none⟩) hbl).trans h.fb⟩
end Go.Proofs.YtkdimbpmgngajaaDoor.Lx
