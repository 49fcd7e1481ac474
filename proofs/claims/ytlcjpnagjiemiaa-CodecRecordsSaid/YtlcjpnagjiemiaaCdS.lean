/- Walks: the reader's record, and Record. -/
import Derived.Test.YtlcjpnagjiemiaaRows
import Derived.Test.YtlcjpnagjiemiaaCdO
import Derived.Test.YtlcjpnagjiemiaaCdQ
namespace Go.Proofs.Ytlcjpnagjiemiaa
open Go.RowKit

/-- A record. -/
def recR (s : St) : Rc × St :=
  let a0 := numR s
  let a1 := numR a0.2
  let a2 := numR a1.2
  let a3 := txtR a2.2
  let a4 := txtR a3.2
  let a5 := numR a4.2
  let a6 := numR a5.2
  let a7 := numR a6.2
  let a8 := numR a7.2
  let a9 := boolR a8.2
  let a10 := numR a9.2
  let a11 := boolR a10.2
  (⟨a0.1, a1.1, a2.1, a3.1, a4.1, a5.1, a6.1, a7.1, a8.1, a9.1, a10.1, a11.1⟩, a11.2)
theorem numR_keep {s : St} (h : s.2 ≠ 0) : (numR s).2.2 = s.2 := by rw [numR_stop h]
theorem txtR_keep {s : St} (h : s.2 ≠ 0) : (txtR s).2.2 = s.2 := by
  have hl : lenR s = (0, ([], s.2)) := by rw [lenR, numR_stop h]; simp
  rw [txtR, hl]; simp [h]
theorem boolR_keep {s : St} (h : s.2 ≠ 0) : (boolR s).2.2 = s.2 := by
  rw [boolR, numR_stop h]; simp
theorem boolR_err (s : St) (h : (boolR s).2.2 ≠ 0) : (boolR s).2.1 = [] := by
  unfold boolR at *
  simp only at h ⊢
  split
  · rfl
  · rename_i h0; rw [if_neg h0] at h; exact (numR_err s h).2
theorem recR_len (s : St) : (recR s).2.1.length ≤ s.1.length := by
  unfold recR
  simp only
  have h0 := numR_len2 (s)
  have h1 := numR_len2 ((numR s).2)
  have h2 := numR_len2 ((numR (numR s).2).2)
  have h3 := txtR_len ((numR (numR (numR s).2).2).2)
  have h4 := txtR_len ((txtR (numR (numR (numR s).2).2).2).2)
  have h5 := numR_len2 ((txtR (txtR (numR (numR (numR s).2).2).2).2).2)
  have h6 := numR_len2 ((numR (txtR (txtR (numR (numR (numR s).2).2).2).2).2).2)
  have h7 := numR_len2 ((numR (numR (txtR (txtR (numR (numR (numR s).2).2).2).2).2).2).2)
  have h8 := numR_len2 ((numR (numR (numR (txtR (txtR (numR (numR (numR s).2).2).2).2).2).2).2).2)
  have h9 := boolR_len ((numR (numR (numR (numR (txtR (txtR (numR (numR (numR s).2).2).2).2).2).2).2).2).2)
  have h10 := numR_len2 ((boolR (numR (numR (numR (numR (txtR (txtR (numR (numR (numR s).2).2).2).2).2).2).2).2).2).2)
  have h11 := boolR_len ((numR (boolR (numR (numR (numR (numR (txtR (txtR (numR (numR (numR s).2).2).2).2).2).2).2).2).2).2).2)
  omega
theorem recR_err (s : St) (h : (recR s).2.2 ≠ 0) : (recR s).2.1 = [] := by
  unfold recR at *
  exact boolR_err _ h

theorem keepB {a b : World} {g k : Nat} {o : Obj} (hg : a.grownBy b (some g)) (h : a.heap[k]? = some o) (hne : g ≠ k) : b.heap[k]? = some o :=
  (hg.block k (Array.getElem?_eq_some_iff.1 h).1 (by intro e; exact hne (Option.some.inj e).symm)).trans h
theorem RcB.fr {W : World} {g : Nat} {r : Rc} (h : RcB W g r) : ∀ i, W.frozen? ⟨g, i, none⟩ = false := by
  intro i
  unfold RcB at h
  simp [World.frozen?, h]
theorem RcB.put {w : World} {g : Nat} {r0 : Rc} (r : Rc) (h : RcB w g r0) : RcB ((((((((((((w.setCell ⟨g, 0, none⟩ (.int .i64 r.s0)).setCell ⟨g, 1, none⟩ (.int .i64 r.s1)).setCell ⟨g, 2, none⟩ (.int .i64 r.s2)).setCell ⟨g, 3, none⟩ (.string r.sa)).setCell ⟨g, 4, none⟩ (.string r.sb)).setCell ⟨g, 5, none⟩ (.int .i64 r.s5)).setCell ⟨g, 6, none⟩ (.int .i64 r.s6)).setCell ⟨g, 7, none⟩ (.int .i64 r.s7)).setCell ⟨g, 8, none⟩ (.int .i64 r.s8)).setCell ⟨g, 9, none⟩ (.bool r.b9)).setCell ⟨g, 10, none⟩ (.int .i64 r.s10)).setCell ⟨g, 11, none⟩ (.bool r.b11)) g r := by
  unfold RcB Rc.cells at *
  simp [World.setCell, Array.getElem?_modify, h]
theorem Rd.set {w0 W : World} {g b i : Nat} {l : List Int} {er : Int} {u : Value} (h : Rd w0 W g l er) (hb : g < b) : Rd w0 (W.setCell ⟨b, i, none⟩ u) g l er := by
  obtain ⟨hg, A, n, c, ys, hB, hA, hys, hbl⟩ := h
  refine ⟨hg, A, n, c, ys, ?_, hA, hys, hbl.setCell (Nat.le_of_lt hb) u⟩
  unfold RdB at hB ⊢
  rw [Below.heap_setCell _ _ _ _ (by show g ≠ b; omega)]
  exact hB
set_option maxRecDepth 100000 in
set_option maxHeartbeats 8000000 in
theorem record_any {w0 W : World} {g : Nat} {l0 : List Int} {t0 : Int} (h : Rd w0 W g l0 t0) (hgW : g < W.heap.size) :
    Calls Try.prog 41 #[.pointer (some ⟨g, 0, none⟩)] W fun e W' => e = .returned (.agg (recR (l0, t0)).1.cells) ∧ Rd w0 W' g (recR (l0, t0)).2.1 (recR (l0, t0)).2.2 := by
  have hg1 : Rd w0 (W.alloc (.cells #[.int .i64 0, .int .i64 0, .int .i64 0, .string ByteArray.empty, .string ByteArray.empty, .int .i64 0, .int .i64 0, .int .i64 0, .int .i64 0, .bool false, .int .i64 0, .bool false] 40)) g l0 t0 := h.grow (World.grownBy_alloc W _ (some (g + 1))) (fun k hk => by cases hk; omega) hgW
  obtain ⟨⟨s0, l1, t1⟩, h0⟩ : ∃ S, numR (l0, t0) = S := ⟨_, rfl⟩
  obtain ⟨⟨s1, l2, t2⟩, h1⟩ : ∃ S, numR (l1, t1) = S := ⟨_, rfl⟩
  obtain ⟨⟨s2, l3, t3⟩, h2⟩ : ∃ S, numR (l2, t2) = S := ⟨_, rfl⟩
  obtain ⟨⟨sa, l4, t4⟩, h3⟩ : ∃ S, txtR (l3, t3) = S := ⟨_, rfl⟩
  obtain ⟨⟨sb, l5, t5⟩, h4⟩ : ∃ S, txtR (l4, t4) = S := ⟨_, rfl⟩
  obtain ⟨⟨s5, l6, t6⟩, h5⟩ : ∃ S, numR (l5, t5) = S := ⟨_, rfl⟩
  obtain ⟨⟨s6, l7, t7⟩, h6⟩ : ∃ S, numR (l6, t6) = S := ⟨_, rfl⟩
  obtain ⟨⟨s7, l8, t8⟩, h7⟩ : ∃ S, numR (l7, t7) = S := ⟨_, rfl⟩
  obtain ⟨⟨s8, l9, t9⟩, h8⟩ : ∃ S, numR (l8, t8) = S := ⟨_, rfl⟩
  obtain ⟨⟨b9, l10, t10⟩, h9⟩ : ∃ S, boolR (l9, t9) = S := ⟨_, rfl⟩
  obtain ⟨⟨s10, l11, t11⟩, h10⟩ : ∃ S, numR (l10, t10) = S := ⟨_, rfl⟩
  obtain ⟨⟨b11, l12, t12⟩, h11⟩ : ∃ S, boolR (l11, t11) = S := ⟨_, rfl⟩
  have hr : recR (l0, t0) = (⟨s0, s1, s2, sa, sb, s5, s6, s7, s8, b9, s10, b11⟩, (l12, t12)) := by simp only [recR, h0, h1, h2, h3, h4, h5, h6, h7, h8, h9, h10, h11]
  rw [hr]
  have k0 : ∀ w1, Rd w0 w1 g l0 t0 → Calls Try.prog 33 #[.pointer (some ⟨g, 0, none⟩)] w1 (Steps w0 w1 g (.int .i64 s0) (l1, t1)) := fun w1 hw => by have := number_any hw; rw [h0] at this; exact this
  have k1 : ∀ w1, Rd w0 w1 g l1 t1 → Calls Try.prog 33 #[.pointer (some ⟨g, 0, none⟩)] w1 (Steps w0 w1 g (.int .i64 s1) (l2, t2)) := fun w1 hw => by have := number_any hw; rw [h1] at this; exact this
  have k2 : ∀ w1, Rd w0 w1 g l2 t2 → Calls Try.prog 33 #[.pointer (some ⟨g, 0, none⟩)] w1 (Steps w0 w1 g (.int .i64 s2) (l3, t3)) := fun w1 hw => by have := number_any hw; rw [h2] at this; exact this
  have k3 : ∀ w1, Rd w0 w1 g l3 t3 → Calls Try.prog 38 #[.pointer (some ⟨g, 0, none⟩)] w1 (Steps w0 w1 g (.string sa) (l4, t4)) := fun w1 hw => by have := text_any hw; rw [h3] at this; exact this
  have k4 : ∀ w1, Rd w0 w1 g l4 t4 → Calls Try.prog 38 #[.pointer (some ⟨g, 0, none⟩)] w1 (Steps w0 w1 g (.string sb) (l5, t5)) := fun w1 hw => by have := text_any hw; rw [h4] at this; exact this
  have k5 : ∀ w1, Rd w0 w1 g l5 t5 → Calls Try.prog 33 #[.pointer (some ⟨g, 0, none⟩)] w1 (Steps w0 w1 g (.int .i64 s5) (l6, t6)) := fun w1 hw => by have := number_any hw; rw [h5] at this; exact this
  have k6 : ∀ w1, Rd w0 w1 g l6 t6 → Calls Try.prog 33 #[.pointer (some ⟨g, 0, none⟩)] w1 (Steps w0 w1 g (.int .i64 s6) (l7, t7)) := fun w1 hw => by have := number_any hw; rw [h6] at this; exact this
  have k7 : ∀ w1, Rd w0 w1 g l7 t7 → Calls Try.prog 33 #[.pointer (some ⟨g, 0, none⟩)] w1 (Steps w0 w1 g (.int .i64 s7) (l8, t8)) := fun w1 hw => by have := number_any hw; rw [h7] at this; exact this
  have k8 : ∀ w1, Rd w0 w1 g l8 t8 → Calls Try.prog 33 #[.pointer (some ⟨g, 0, none⟩)] w1 (Steps w0 w1 g (.int .i64 s8) (l9, t9)) := fun w1 hw => by have := number_any hw; rw [h8] at this; exact this
  have k9 : ∀ w1, Rd w0 w1 g l9 t9 → Calls Try.prog 50 #[.pointer (some ⟨g, 0, none⟩)] w1 (Steps w0 w1 g (.bool b9) (l10, t10)) := fun w1 hw => by have := truth_any hw; rw [h9] at this; exact this
  have k10 : ∀ w1, Rd w0 w1 g l10 t10 → Calls Try.prog 33 #[.pointer (some ⟨g, 0, none⟩)] w1 (Steps w0 w1 g (.int .i64 s10) (l11, t11)) := fun w1 hw => by have := number_any hw; rw [h10] at this; exact this
  have k11 : ∀ w1, Rd w0 w1 g l11 t11 → Calls Try.prog 50 #[.pointer (some ⟨g, 0, none⟩)] w1 (Steps w0 w1 g (.bool b11) (l12, t12)) := fun w1 hw => by have := truth_any hw; rw [h11] at this; exact this
  have K0 := Lib.hid k0
  have K1 := Lib.hid k1
  have K2 := Lib.hid k2
  have K3 := Lib.hid k3
  have K4 := Lib.hid k4
  have K5 := Lib.hid k5
  have K6 := Lib.hid k6
  have K7 := Lib.hid k7
  have K8 := Lib.hid k8
  have K9 := Lib.hid k9
  have K10 := Lib.hid k10
  have K11 := Lib.hid k11
  clear hr h h0 h1 h2 h3 h4 h5 h6 h7 h8 h9 h10 h11 k0 k1 k2 k3 k4 k5 k6 k7 k8 k9 k10 k11
  have HR0 := Lib.hid hg1; have B0 : Hid (RcB (W.alloc (.cells rc0.cells 40)) W.heap.size rc0) := heap_alloc_new _ _; have HGN : Hid (g ≠ W.heap.size) := Lib.hid (by omega); have HGL := Lib.hid hgW; clear hg1 hgW
  go_enter Try.func41, Try.ntmps41
  go_wp2_with (first
    | (go_at_call 33; refine (K0.out _ HR0.out).mono ?_; rintro e w1 ⟨rfl, hr, hgr⟩; have HR1 := Lib.hid hr; have B1 : Hid (RcB w1 W.heap.size rc0) := Lib.hid (keepB hgr B0.out HGN.out); clear hr hgr K0 HR0 B0)
    | (go_at_call 33; refine (K1.out _ HR1.out).mono ?_; rintro e w2 ⟨rfl, hr, hgr⟩; have HR2 := Lib.hid hr; have B2 : Hid (RcB w2 W.heap.size rc0) := Lib.hid (keepB hgr B1.out HGN.out); clear hr hgr K1 HR1 B1)
    | (go_at_call 33; refine (K2.out _ HR2.out).mono ?_; rintro e w3 ⟨rfl, hr, hgr⟩; have HR3 := Lib.hid hr; have B3 : Hid (RcB w3 W.heap.size rc0) := Lib.hid (keepB hgr B2.out HGN.out); clear hr hgr K2 HR2 B2)
    | (go_at_call 38; refine (K3.out _ HR3.out).mono ?_; rintro e w4 ⟨rfl, hr, hgr⟩; have HR4 := Lib.hid hr; have B4 : Hid (RcB w4 W.heap.size rc0) := Lib.hid (keepB hgr B3.out HGN.out); clear hr hgr K3 HR3 B3)
    | (go_at_call 38; refine (K4.out _ HR4.out).mono ?_; rintro e w5 ⟨rfl, hr, hgr⟩; have HR5 := Lib.hid hr; have B5 : Hid (RcB w5 W.heap.size rc0) := Lib.hid (keepB hgr B4.out HGN.out); clear hr hgr K4 HR4 B4)
    | (go_at_call 33; refine (K5.out _ HR5.out).mono ?_; rintro e w6 ⟨rfl, hr, hgr⟩; have HR6 := Lib.hid hr; have B6 : Hid (RcB w6 W.heap.size rc0) := Lib.hid (keepB hgr B5.out HGN.out); clear hr hgr K5 HR5 B5)
    | (go_at_call 33; refine (K6.out _ HR6.out).mono ?_; rintro e w7 ⟨rfl, hr, hgr⟩; have HR7 := Lib.hid hr; have B7 : Hid (RcB w7 W.heap.size rc0) := Lib.hid (keepB hgr B6.out HGN.out); clear hr hgr K6 HR6 B6)
    | (go_at_call 33; refine (K7.out _ HR7.out).mono ?_; rintro e w8 ⟨rfl, hr, hgr⟩; have HR8 := Lib.hid hr; have B8 : Hid (RcB w8 W.heap.size rc0) := Lib.hid (keepB hgr B7.out HGN.out); clear hr hgr K7 HR7 B7)
    | (go_at_call 33; refine (K8.out _ HR8.out).mono ?_; rintro e w9 ⟨rfl, hr, hgr⟩; have HR9 := Lib.hid hr; have B9 : Hid (RcB w9 W.heap.size rc0) := Lib.hid (keepB hgr B8.out HGN.out); clear hr hgr K8 HR8 B8)
    | (go_at_call 50; refine (K9.out _ HR9.out).mono ?_; rintro e w10 ⟨rfl, hr, hgr⟩; have HR10 := Lib.hid hr; have B10 : Hid (RcB w10 W.heap.size rc0) := Lib.hid (keepB hgr B9.out HGN.out); clear hr hgr K9 HR9 B9)
    | (go_at_call 33; refine (K10.out _ HR10.out).mono ?_; rintro e w11 ⟨rfl, hr, hgr⟩; have HR11 := Lib.hid hr; have B11 : Hid (RcB w11 W.heap.size rc0) := Lib.hid (keepB hgr B10.out HGN.out); clear hr hgr K10 HR10 B10)
    | (go_at_call 50; refine (K11.out _ HR11.out).mono ?_; rintro e w12 ⟨rfl, hr, hgr⟩; have HR12 := Lib.hid hr; have B12 : Hid (RcB w12 W.heap.size rc0) := Lib.hid (keepB hgr B11.out HGN.out); clear hr hgr K11 HR11 B11; obtain ⟨q0, q1, q2, q3, q4, q5, q6, q7, q8, q9, q10, q11⟩ := B12.out.cells; have hfr := B12.out.fr))
  refine bodyPost_ret (v := .agg (Rc.cells ⟨s0, s1, s2, sa, sb, s5, s6, s7, s8, b9, s10, b11⟩)) (results_cell_row rfl _ _ W.heap.size 40 _ (0, 0) _ rfl (B12.out.put ⟨s0, s1, s2, sa, sb, s5, s6, s7, s8, b9, s10, b11⟩) Try.underlying40 rfl rfl) rfl ⟨rfl, ?_⟩
  repeat' apply Rd.set
  all_goals first | exact HR12.out | exact HGL.out
end Go.Proofs.Ytlcjpnagjiemiaa
