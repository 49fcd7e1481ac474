/- Walk: one field, in the reference. -/
import Derived.Test.YtinnmnhaeejfdaaTgRec
import Derived.RegionTactic
namespace Go.Proofs.Ytinnmnhaeejfdaa
open Go.RowKit

theorem RcB.other {W : World} {q h i : Nat} {r : Rc} {u : Value} (k : RcB W q r) (hne : q ≠ h) : RcB (W.setCell ⟨h, i, none⟩ u) q r := by
  unfold RcB at k ⊢
  rw [Below.heap_setCell _ _ _ _ (by show q ≠ h; omega)]
  exact k
theorem put12 {w : World} {g : Nat} {r0 : Rc} (s0 : Int) (s1 : Int) (s2 : Int) (sa : ByteArray) (sb : ByteArray) (s5 : Int) (s6 : Int) (s7 : Int) (s8 : Int) (b9 : Bool) (s10 : Int) (b11 : Bool) (h : RcB w g r0) : RcB ((((((((((((w.setCell ⟨g, 0, none⟩ (.int .i64 s0)).setCell ⟨g, 1, none⟩ (.int .i64 s1)).setCell ⟨g, 2, none⟩ (.int .i64 s2)).setCell ⟨g, 3, none⟩ (.string sa)).setCell ⟨g, 4, none⟩ (.string sb)).setCell ⟨g, 5, none⟩ (.int .i64 s5)).setCell ⟨g, 6, none⟩ (.int .i64 s6)).setCell ⟨g, 7, none⟩ (.int .i64 s7)).setCell ⟨g, 8, none⟩ (.int .i64 s8)).setCell ⟨g, 9, none⟩ (.bool b9)).setCell ⟨g, 10, none⟩ (.int .i64 s10)).setCell ⟨g, 11, none⟩ (.bool b11)) g ⟨s0, s1, s2, sa, sb, s5, s6, s7, s8, b9, s10, b11⟩ := by
  unfold RcB Rc.cells at *
  simp [World.setCell, Array.getElem?_modify, h]
theorem fold_ge : ∀ (l : List Int) (a : Int), 0 ≤ a → (∀ x ∈ l, 0 ≤ x ∧ x ≤ 255) → a ≤ l.foldl (fun n x => n * 256 + x) a
  | [], a, _, _ => by simp
  | x :: l, a, ha, h => by
    have hx := h x (List.mem_cons_self ..)
    have := fold_ge l (a * 256 + x) (by omega) (fun y hy => h y (List.mem_cons_of_mem _ hy))
    rw [List.foldl_cons]; omega
theorem numD_pos {l : List Int} (h : numOk l = true) (hr : ∀ x ∈ l, 0 ≤ x ∧ x ≤ 255) : 0 < numD l := by
  cases l with
  | nil => simp [numOk] at h
  | cons x t =>
    have hx := hr x (List.mem_cons_self ..)
    have h0 : ¬ x = 0 := by
      intro e; rw [e] at h; simp [numOk] at h
    have := fold_ge t (0 * 256 + x) (by omega) (fun y hy => hr y (List.mem_cons_of_mem _ hy))
    unfold numD
    rw [List.foldl_cons]; omega
/-- What field gives. -/
def FldP (r : Rc) (t : Int) (l : List Int) (w : World) (e : Ending) (w' : World) : Prop :=
  ∃ (ok : Bool) (r' : Rc), e = .returned (.tuple #[.agg r'.cells, .bool ok]) ∧ setM r t l = (if ok then some r' else none) ∧ Below w.heap.size w w'
/-- The memory of field: the record, the element, the result. -/
structure FMem (w W3 : World) (b1 g1 g2 : Nat) (r : Rc) (t : Int) (A : Option Addr) (m d : Nat) (l : List Int) : Prop where
  x1 : RcB W3 b1 r
  e0 : W3.cell? ⟨g1, 0, none⟩ = some (.int .i64 t)
  e1 : W3.cell? ⟨g1, 1, none⟩ = some (.slice A m d)
  x3 : RcB W3 g2 rc0
  y : Byt W3 A m d l
  bel : Below b1 w W3
  n12 : b1 < g1
  n23 : g1 < g2
  hb : w.heap.size = b1
theorem FMem.step {w W3 W4 : World} {b1 g1 g2 : Nat} {r : Rc} {t : Int} {A : Option Addr} {m d : Nat} {l : List Int} (h : FMem w W3 b1 g1 g2 r t A m d l) (hb : Below W3.heap.size W3 W4) : FMem w W4 b1 g1 g2 r t A m d l := by
  have h3 := heap_lt h.x3
  have h1 := h.n12
  have h2 := h.n23
  have hs : b1 ≤ W3.heap.size := by omega
  exact ⟨h.x1.below hb (heap_lt h.x1), (hb.cell (p := ⟨g1, 0, none⟩) (by show g1 < _; omega)).trans h.e0, (hb.cell (p := ⟨g1, 1, none⟩) (by show g1 < _; omega)).trans h.e1, h.x3.below hb h3, h.y.below hb, h.bel.trans (hb.mono hs), h.n12, h.n23, h.hb⟩
theorem field_mem (w : World) (r : Rc) (t : Int) (A : Option Addr) (m d : Nat) (l : List Int) (hA : Byt w A m d l) : ∃ W1 W2 W3 b1 g1 g2, w.alloc (.cells r.cells 34) = W1 ∧ W1.alloc (.cells #[.int .i64 t, .slice A m d] 47) = W2 ∧ W2.alloc (.cells rc0.cells 34) = W3 ∧ w.heap.size = b1 ∧ W1.heap.size = g1 ∧ W2.heap.size = g2 ∧ FMem w W3 b1 g1 g2 r t A m d l := by
  obtain ⟨W1, hW1, hb1, hx1, hs1⟩ := rec_world w r
  have hb2 := below_lit W1 (.cells #[.int .i64 t, .slice A m d] 47)
  have hs2 := World.size_alloc W1 (.cells #[.int .i64 t, .slice A m d] 47)
  have he := heap_alloc_new W1 (.cells #[.int .i64 t, .slice A m d] 47)
  obtain ⟨W2, hW2⟩ : ∃ W2, W1.alloc (.cells #[.int .i64 t, .slice A m d] 47) = W2 := ⟨_, rfl⟩
  rw [hW2] at hb2 hs2 he
  obtain ⟨W3, hW3, hb3, hx3, hs3⟩ := rec_world W2 rc0
  have hk : ∀ j u, (#[Value.int .i64 t, Value.slice A m d] : Array Value)[j]? = some u → W3.cell? ⟨W1.heap.size, j, none⟩ = some u := fun j u hu => by
    rw [hb3.cell (p := ⟨W1.heap.size, j, none⟩) (by show W1.heap.size < _; omega)]
    simp only [World.cell?, he]
    exact hu
  have h13 : Below W1.heap.size W1 W3 := hb2.trans (hb3.mono (by omega))
  refine ⟨W1, W2, W3, _, _, _, hW1, hW2, hW3, rfl, rfl, rfl, ⟨hx1.below h13 (by omega), hk 0 _ rfl, hk 1 _ rfl, hx3, (hA.below hb1).below h13, hb1.trans (h13.mono (by omega)), by omega, by omega, rfl⟩⟩
set_option maxRecDepth 100000 in
set_option maxHeartbeats 32000000 in
theorem field_any {A : Option Addr} {m d : Nat} {l : List Int} {w : World} {r : Rc} {t : Int} (hA : Byt w A m d l) (hm : m ≤ 100000) (ht : 1 ≤ t) :
    Calls Try.prog 34 #[.agg r.cells, .agg #[.int .i64 t, .slice A m d]] w (FldP r t l w) := by
  have hran := hA.ran
  obtain ⟨W1, W2, W3, b1, g1, g2, hW1, hW2, hW3, hb1, hg1, hg2, hM⟩ := field_mem w r t A m d l hA
  have hl := hA.len
  simp only [Rc.cells, rc0] at hW1 hW3 ⊢
  have HM := Lib.hid hM; have HR := Lib.hid hran; have HMM := Lib.hid hm; have HL := Lib.hid hl
  obtain ⟨k0, k1, k2, k3, k4, k5, k6, k7, k8, k9, k10, k11⟩ := hM.x1.cells
  obtain ⟨q0, q1, q2, q3, q4, q5, q6, q7, q8, q9, q10, q11⟩ := hM.x3.cells
  have fr1 := hM.x1.fr
  have fr3 := hM.x3.fr
  have e0 := hM.e0
  have e1 := hM.e1
  have n12 : ¬ b1 = g1 := by have := hM.n12; omega
  have n21 : ¬ g1 = b1 := by have := hM.n12; omega
  have n13 : ¬ b1 = g2 := by have := hM.n12; have := hM.n23; omega
  have n31 : ¬ g2 = b1 := by have := hM.n12; have := hM.n23; omega
  have n23 : ¬ g1 = g2 := by have := hM.n23; omega
  have n32 : ¬ g2 = g1 := by have := hM.n23; omega
  have HNU := Lib.hid (refNum_any hM.y hm)
  clear hM hran hm hl hA
  by_cases t1 : t = 1
  · subst t1
    by_cases hok : numOk l = true
    · simp only [if_pos hok] at HNU
      have hpos := numD_pos hok HR.out
      obtain ⟨N, hN⟩ : ∃ N, numD l = N := ⟨_, rfl⟩
      rw [hN] at HNU hpos
      have HK := Lib.hid hok; have HN := Lib.hid hN
      clear hok hN
      go_enter Try.func34, Try.ntmps34
      go_upto_region 29 with (go_at_call 47; refine HNU.out.mono ?_; rintro e w1 ⟨rfl, rfl⟩)
      go_region
      go_wp2
      generalize hWf : World.drew _ = Wf
      have hx : RcB Wf g2 ⟨r.s0, r.s1, N, r.sa, r.sb, r.s5, r.s6, r.s7, r.s8, r.b9, r.s10, r.b11⟩ := by rw [← hWf]; exact RcB.drew (put12 (r.s0) (r.s1) (N) (r.sa) (r.sb) (r.s5) (r.s6) (r.s7) (r.s8) (r.b9) (r.s10) (r.b11) (HM.out.x3.other n31))
      have hb : Below b1 w Wf := by
        rw [← hWf]
        refine Below.drew ?_
        repeat' apply Below.setCell
        all_goals first | exact HM.out.bel | exact Nat.le_refl _ | (show b1 ≤ g2; have := HM.out.n12; have := HM.out.n23; omega)
      clear hWf
      refine bodyPost_ret (v := .tuple #[.agg (Rc.cells ⟨r.s0, r.s1, N, r.sa, r.sb, r.s5, r.s6, r.s7, r.s8, r.b9, r.s10, r.b11⟩), .bool true]) ?_ rfl ⟨true, ⟨r.s0, r.s1, N, r.sa, r.sb, r.s5, r.s6, r.s7, r.s8, r.b9, r.s10, r.b11⟩, rfl, by simp [setM, HK.out, HN.out], by rw [HM.out.hb]; exact hb⟩
      exact results_cell2 (p := 4) (u := 5) rfl _ _ g2 34 (Rc.cells ⟨r.s0, r.s1, N, r.sa, r.sb, r.s5, r.s6, r.s7, r.s8, r.b9, r.s10, r.b11⟩) (0, 0) _ rfl hx Try.underlying34 rfl rfl
    · simp only [if_neg hok] at HNU
      have HK := Lib.hid hok
      clear hok
      go_enter Try.func34, Try.ntmps34
      go_upto_region 29 with (go_at_call 47; refine HNU.out.mono ?_; rintro e w1 ⟨rfl, rfl⟩)
      go_region
      go_wp2
      generalize hWf : World.drew _ = Wf
      have hx : RcB Wf g2 ⟨r.s0, r.s1, -1, r.sa, r.sb, r.s5, r.s6, r.s7, r.s8, r.b9, r.s10, r.b11⟩ := by rw [← hWf]; exact RcB.drew (put12 (r.s0) (r.s1) (-1) (r.sa) (r.sb) (r.s5) (r.s6) (r.s7) (r.s8) (r.b9) (r.s10) (r.b11) (HM.out.x3.other n31))
      have hb : Below b1 w Wf := by
        rw [← hWf]
        refine Below.drew ?_
        repeat' apply Below.setCell
        all_goals first | exact HM.out.bel | exact Nat.le_refl _ | (show b1 ≤ g2; have := HM.out.n12; have := HM.out.n23; omega)
      clear hWf
      refine bodyPost_ret (v := .tuple #[.agg (Rc.cells ⟨r.s0, r.s1, -1, r.sa, r.sb, r.s5, r.s6, r.s7, r.s8, r.b9, r.s10, r.b11⟩), .bool false]) ?_ rfl ⟨false, ⟨r.s0, r.s1, -1, r.sa, r.sb, r.s5, r.s6, r.s7, r.s8, r.b9, r.s10, r.b11⟩, rfl, by simp [setM, HK.out], by rw [HM.out.hb]; exact hb⟩
      exact results_cell2 (p := 4) (u := 5) rfl _ _ g2 34 (Rc.cells ⟨r.s0, r.s1, -1, r.sa, r.sb, r.s5, r.s6, r.s7, r.s8, r.b9, r.s10, r.b11⟩) (0, 0) _ rfl hx Try.underlying34 rfl rfl
  by_cases t2 : t = 2
  · subst t2
    by_cases hok : numOk l = true
    · simp only [if_pos hok] at HNU
      have hpos := numD_pos hok HR.out
      obtain ⟨N, hN⟩ : ∃ N, numD l = N := ⟨_, rfl⟩
      rw [hN] at HNU hpos
      have HK := Lib.hid hok; have HN := Lib.hid hN
      clear hok hN
      go_enter Try.func34, Try.ntmps34
      go_upto_region 29 with (go_at_call 47; refine HNU.out.mono ?_; rintro e w1 ⟨rfl, rfl⟩)
      go_region
      go_wp2
      generalize hWf : World.drew _ = Wf
      have hx : RcB Wf g2 ⟨N, r.s1, r.s2, r.sa, r.sb, r.s5, r.s6, r.s7, r.s8, r.b9, r.s10, r.b11⟩ := by rw [← hWf]; exact RcB.drew (put12 (N) (r.s1) (r.s2) (r.sa) (r.sb) (r.s5) (r.s6) (r.s7) (r.s8) (r.b9) (r.s10) (r.b11) (HM.out.x3.other n31))
      have hb : Below b1 w Wf := by
        rw [← hWf]
        refine Below.drew ?_
        repeat' apply Below.setCell
        all_goals first | exact HM.out.bel | exact Nat.le_refl _ | (show b1 ≤ g2; have := HM.out.n12; have := HM.out.n23; omega)
      clear hWf
      refine bodyPost_ret (v := .tuple #[.agg (Rc.cells ⟨N, r.s1, r.s2, r.sa, r.sb, r.s5, r.s6, r.s7, r.s8, r.b9, r.s10, r.b11⟩), .bool true]) ?_ rfl ⟨true, ⟨N, r.s1, r.s2, r.sa, r.sb, r.s5, r.s6, r.s7, r.s8, r.b9, r.s10, r.b11⟩, rfl, by simp [setM, HK.out, HN.out], by rw [HM.out.hb]; exact hb⟩
      exact results_cell2 (p := 4) (u := 5) rfl _ _ g2 34 (Rc.cells ⟨N, r.s1, r.s2, r.sa, r.sb, r.s5, r.s6, r.s7, r.s8, r.b9, r.s10, r.b11⟩) (0, 0) _ rfl hx Try.underlying34 rfl rfl
    · simp only [if_neg hok] at HNU
      have HK := Lib.hid hok
      clear hok
      go_enter Try.func34, Try.ntmps34
      go_upto_region 29 with (go_at_call 47; refine HNU.out.mono ?_; rintro e w1 ⟨rfl, rfl⟩)
      go_region
      go_wp2
      generalize hWf : World.drew _ = Wf
      have hx : RcB Wf g2 ⟨-1, r.s1, r.s2, r.sa, r.sb, r.s5, r.s6, r.s7, r.s8, r.b9, r.s10, r.b11⟩ := by rw [← hWf]; exact RcB.drew (put12 (-1) (r.s1) (r.s2) (r.sa) (r.sb) (r.s5) (r.s6) (r.s7) (r.s8) (r.b9) (r.s10) (r.b11) (HM.out.x3.other n31))
      have hb : Below b1 w Wf := by
        rw [← hWf]
        refine Below.drew ?_
        repeat' apply Below.setCell
        all_goals first | exact HM.out.bel | exact Nat.le_refl _ | (show b1 ≤ g2; have := HM.out.n12; have := HM.out.n23; omega)
      clear hWf
      refine bodyPost_ret (v := .tuple #[.agg (Rc.cells ⟨-1, r.s1, r.s2, r.sa, r.sb, r.s5, r.s6, r.s7, r.s8, r.b9, r.s10, r.b11⟩), .bool false]) ?_ rfl ⟨false, ⟨-1, r.s1, r.s2, r.sa, r.sb, r.s5, r.s6, r.s7, r.s8, r.b9, r.s10, r.b11⟩, rfl, by simp [setM, HK.out], by rw [HM.out.hb]; exact hb⟩
      exact results_cell2 (p := 4) (u := 5) rfl _ _ g2 34 (Rc.cells ⟨-1, r.s1, r.s2, r.sa, r.sb, r.s5, r.s6, r.s7, r.s8, r.b9, r.s10, r.b11⟩) (0, 0) _ rfl hx Try.underlying34 rfl rfl
  by_cases t3 : t = 3
  · subst t3
    by_cases hok : numOk l = true
    · simp only [if_pos hok] at HNU
      have hpos := numD_pos hok HR.out
      obtain ⟨N, hN⟩ : ∃ N, numD l = N := ⟨_, rfl⟩
      rw [hN] at HNU hpos
      have HK := Lib.hid hok; have HN := Lib.hid hN
      clear hok hN
      go_enter Try.func34, Try.ntmps34
      go_upto_region 29 with (go_at_call 47; refine HNU.out.mono ?_; rintro e w1 ⟨rfl, rfl⟩)
      go_region
      go_wp2
      generalize hWf : World.drew _ = Wf
      have hx : RcB Wf g2 ⟨r.s0, N, r.s2, r.sa, r.sb, r.s5, r.s6, r.s7, r.s8, r.b9, r.s10, r.b11⟩ := by rw [← hWf]; exact RcB.drew (put12 (r.s0) (N) (r.s2) (r.sa) (r.sb) (r.s5) (r.s6) (r.s7) (r.s8) (r.b9) (r.s10) (r.b11) (HM.out.x3.other n31))
      have hb : Below b1 w Wf := by
        rw [← hWf]
        refine Below.drew ?_
        repeat' apply Below.setCell
        all_goals first | exact HM.out.bel | exact Nat.le_refl _ | (show b1 ≤ g2; have := HM.out.n12; have := HM.out.n23; omega)
      clear hWf
      refine bodyPost_ret (v := .tuple #[.agg (Rc.cells ⟨r.s0, N, r.s2, r.sa, r.sb, r.s5, r.s6, r.s7, r.s8, r.b9, r.s10, r.b11⟩), .bool true]) ?_ rfl ⟨true, ⟨r.s0, N, r.s2, r.sa, r.sb, r.s5, r.s6, r.s7, r.s8, r.b9, r.s10, r.b11⟩, rfl, by simp [setM, HK.out, HN.out], by rw [HM.out.hb]; exact hb⟩
      exact results_cell2 (p := 4) (u := 5) rfl _ _ g2 34 (Rc.cells ⟨r.s0, N, r.s2, r.sa, r.sb, r.s5, r.s6, r.s7, r.s8, r.b9, r.s10, r.b11⟩) (0, 0) _ rfl hx Try.underlying34 rfl rfl
    · simp only [if_neg hok] at HNU
      have HK := Lib.hid hok
      clear hok
      go_enter Try.func34, Try.ntmps34
      go_upto_region 29 with (go_at_call 47; refine HNU.out.mono ?_; rintro e w1 ⟨rfl, rfl⟩)
      go_region
      go_wp2
      generalize hWf : World.drew _ = Wf
      have hx : RcB Wf g2 ⟨r.s0, -1, r.s2, r.sa, r.sb, r.s5, r.s6, r.s7, r.s8, r.b9, r.s10, r.b11⟩ := by rw [← hWf]; exact RcB.drew (put12 (r.s0) (-1) (r.s2) (r.sa) (r.sb) (r.s5) (r.s6) (r.s7) (r.s8) (r.b9) (r.s10) (r.b11) (HM.out.x3.other n31))
      have hb : Below b1 w Wf := by
        rw [← hWf]
        refine Below.drew ?_
        repeat' apply Below.setCell
        all_goals first | exact HM.out.bel | exact Nat.le_refl _ | (show b1 ≤ g2; have := HM.out.n12; have := HM.out.n23; omega)
      clear hWf
      refine bodyPost_ret (v := .tuple #[.agg (Rc.cells ⟨r.s0, -1, r.s2, r.sa, r.sb, r.s5, r.s6, r.s7, r.s8, r.b9, r.s10, r.b11⟩), .bool false]) ?_ rfl ⟨false, ⟨r.s0, -1, r.s2, r.sa, r.sb, r.s5, r.s6, r.s7, r.s8, r.b9, r.s10, r.b11⟩, rfl, by simp [setM, HK.out], by rw [HM.out.hb]; exact hb⟩
      exact results_cell2 (p := 4) (u := 5) rfl _ _ g2 34 (Rc.cells ⟨r.s0, -1, r.s2, r.sa, r.sb, r.s5, r.s6, r.s7, r.s8, r.b9, r.s10, r.b11⟩) (0, 0) _ rfl hx Try.underlying34 rfl rfl
  by_cases t6 : t = 6
  · subst t6
    by_cases hok : numOk l = true
    · simp only [if_pos hok] at HNU
      have hpos := numD_pos hok HR.out
      obtain ⟨N, hN⟩ : ∃ N, numD l = N := ⟨_, rfl⟩
      rw [hN] at HNU hpos
      have HK := Lib.hid hok; have HN := Lib.hid hN
      clear hok hN
      go_enter Try.func34, Try.ntmps34
      go_upto_region 29 with (go_at_call 47; refine HNU.out.mono ?_; rintro e w1 ⟨rfl, rfl⟩)
      go_region
      go_wp2
      generalize hWf : World.drew _ = Wf
      have hx : RcB Wf g2 ⟨r.s0, r.s1, r.s2, r.sa, r.sb, N, r.s6, r.s7, r.s8, r.b9, r.s10, r.b11⟩ := by rw [← hWf]; exact RcB.drew (put12 (r.s0) (r.s1) (r.s2) (r.sa) (r.sb) (N) (r.s6) (r.s7) (r.s8) (r.b9) (r.s10) (r.b11) (HM.out.x3.other n31))
      have hb : Below b1 w Wf := by
        rw [← hWf]
        refine Below.drew ?_
        repeat' apply Below.setCell
        all_goals first | exact HM.out.bel | exact Nat.le_refl _ | (show b1 ≤ g2; have := HM.out.n12; have := HM.out.n23; omega)
      clear hWf
      refine bodyPost_ret (v := .tuple #[.agg (Rc.cells ⟨r.s0, r.s1, r.s2, r.sa, r.sb, N, r.s6, r.s7, r.s8, r.b9, r.s10, r.b11⟩), .bool true]) ?_ rfl ⟨true, ⟨r.s0, r.s1, r.s2, r.sa, r.sb, N, r.s6, r.s7, r.s8, r.b9, r.s10, r.b11⟩, rfl, by simp [setM, HK.out, HN.out], by rw [HM.out.hb]; exact hb⟩
      exact results_cell2 (p := 4) (u := 5) rfl _ _ g2 34 (Rc.cells ⟨r.s0, r.s1, r.s2, r.sa, r.sb, N, r.s6, r.s7, r.s8, r.b9, r.s10, r.b11⟩) (0, 0) _ rfl hx Try.underlying34 rfl rfl
    · simp only [if_neg hok] at HNU
      have HK := Lib.hid hok
      clear hok
      go_enter Try.func34, Try.ntmps34
      go_upto_region 29 with (go_at_call 47; refine HNU.out.mono ?_; rintro e w1 ⟨rfl, rfl⟩)
      go_region
      go_wp2
      generalize hWf : World.drew _ = Wf
      have hx : RcB Wf g2 ⟨r.s0, r.s1, r.s2, r.sa, r.sb, -1, r.s6, r.s7, r.s8, r.b9, r.s10, r.b11⟩ := by rw [← hWf]; exact RcB.drew (put12 (r.s0) (r.s1) (r.s2) (r.sa) (r.sb) (-1) (r.s6) (r.s7) (r.s8) (r.b9) (r.s10) (r.b11) (HM.out.x3.other n31))
      have hb : Below b1 w Wf := by
        rw [← hWf]
        refine Below.drew ?_
        repeat' apply Below.setCell
        all_goals first | exact HM.out.bel | exact Nat.le_refl _ | (show b1 ≤ g2; have := HM.out.n12; have := HM.out.n23; omega)
      clear hWf
      refine bodyPost_ret (v := .tuple #[.agg (Rc.cells ⟨r.s0, r.s1, r.s2, r.sa, r.sb, -1, r.s6, r.s7, r.s8, r.b9, r.s10, r.b11⟩), .bool false]) ?_ rfl ⟨false, ⟨r.s0, r.s1, r.s2, r.sa, r.sb, -1, r.s6, r.s7, r.s8, r.b9, r.s10, r.b11⟩, rfl, by simp [setM, HK.out], by rw [HM.out.hb]; exact hb⟩
      exact results_cell2 (p := 4) (u := 5) rfl _ _ g2 34 (Rc.cells ⟨r.s0, r.s1, r.s2, r.sa, r.sb, -1, r.s6, r.s7, r.s8, r.b9, r.s10, r.b11⟩) (0, 0) _ rfl hx Try.underlying34 rfl rfl
  by_cases t7 : t = 7
  · subst t7
    by_cases hok : numOk l = true
    · simp only [if_pos hok] at HNU
      have hpos := numD_pos hok HR.out
      obtain ⟨N, hN⟩ : ∃ N, numD l = N := ⟨_, rfl⟩
      rw [hN] at HNU hpos
      have HK := Lib.hid hok; have HN := Lib.hid hN
      clear hok hN
      go_enter Try.func34, Try.ntmps34
      go_upto_region 29 with (go_at_call 47; refine HNU.out.mono ?_; rintro e w1 ⟨rfl, rfl⟩)
      go_region
      go_wp2
      generalize hWf : World.drew _ = Wf
      have hx : RcB Wf g2 ⟨r.s0, r.s1, r.s2, r.sa, r.sb, r.s5, N, r.s7, r.s8, r.b9, r.s10, r.b11⟩ := by rw [← hWf]; exact RcB.drew (put12 (r.s0) (r.s1) (r.s2) (r.sa) (r.sb) (r.s5) (N) (r.s7) (r.s8) (r.b9) (r.s10) (r.b11) (HM.out.x3.other n31))
      have hb : Below b1 w Wf := by
        rw [← hWf]
        refine Below.drew ?_
        repeat' apply Below.setCell
        all_goals first | exact HM.out.bel | exact Nat.le_refl _ | (show b1 ≤ g2; have := HM.out.n12; have := HM.out.n23; omega)
      clear hWf
      refine bodyPost_ret (v := .tuple #[.agg (Rc.cells ⟨r.s0, r.s1, r.s2, r.sa, r.sb, r.s5, N, r.s7, r.s8, r.b9, r.s10, r.b11⟩), .bool true]) ?_ rfl ⟨true, ⟨r.s0, r.s1, r.s2, r.sa, r.sb, r.s5, N, r.s7, r.s8, r.b9, r.s10, r.b11⟩, rfl, by simp [setM, HK.out, HN.out], by rw [HM.out.hb]; exact hb⟩
      exact results_cell2 (p := 4) (u := 5) rfl _ _ g2 34 (Rc.cells ⟨r.s0, r.s1, r.s2, r.sa, r.sb, r.s5, N, r.s7, r.s8, r.b9, r.s10, r.b11⟩) (0, 0) _ rfl hx Try.underlying34 rfl rfl
    · simp only [if_neg hok] at HNU
      have HK := Lib.hid hok
      clear hok
      go_enter Try.func34, Try.ntmps34
      go_upto_region 29 with (go_at_call 47; refine HNU.out.mono ?_; rintro e w1 ⟨rfl, rfl⟩)
      go_region
      go_wp2
      generalize hWf : World.drew _ = Wf
      have hx : RcB Wf g2 ⟨r.s0, r.s1, r.s2, r.sa, r.sb, r.s5, -1, r.s7, r.s8, r.b9, r.s10, r.b11⟩ := by rw [← hWf]; exact RcB.drew (put12 (r.s0) (r.s1) (r.s2) (r.sa) (r.sb) (r.s5) (-1) (r.s7) (r.s8) (r.b9) (r.s10) (r.b11) (HM.out.x3.other n31))
      have hb : Below b1 w Wf := by
        rw [← hWf]
        refine Below.drew ?_
        repeat' apply Below.setCell
        all_goals first | exact HM.out.bel | exact Nat.le_refl _ | (show b1 ≤ g2; have := HM.out.n12; have := HM.out.n23; omega)
      clear hWf
      refine bodyPost_ret (v := .tuple #[.agg (Rc.cells ⟨r.s0, r.s1, r.s2, r.sa, r.sb, r.s5, -1, r.s7, r.s8, r.b9, r.s10, r.b11⟩), .bool false]) ?_ rfl ⟨false, ⟨r.s0, r.s1, r.s2, r.sa, r.sb, r.s5, -1, r.s7, r.s8, r.b9, r.s10, r.b11⟩, rfl, by simp [setM, HK.out], by rw [HM.out.hb]; exact hb⟩
      exact results_cell2 (p := 4) (u := 5) rfl _ _ g2 34 (Rc.cells ⟨r.s0, r.s1, r.s2, r.sa, r.sb, r.s5, -1, r.s7, r.s8, r.b9, r.s10, r.b11⟩) (0, 0) _ rfl hx Try.underlying34 rfl rfl
  by_cases t8 : t = 8
  · subst t8
    by_cases hok : numOk l = true
    · simp only [if_pos hok] at HNU
      have hpos := numD_pos hok HR.out
      obtain ⟨N, hN⟩ : ∃ N, numD l = N := ⟨_, rfl⟩
      rw [hN] at HNU hpos
      have HK := Lib.hid hok; have HN := Lib.hid hN
      clear hok hN
      go_enter Try.func34, Try.ntmps34
      go_upto_region 29 with (go_at_call 47; refine HNU.out.mono ?_; rintro e w1 ⟨rfl, rfl⟩)
      go_region
      go_wp2
      generalize hWf : World.drew _ = Wf
      have hx : RcB Wf g2 ⟨r.s0, r.s1, r.s2, r.sa, r.sb, r.s5, r.s6, N, r.s8, r.b9, r.s10, r.b11⟩ := by rw [← hWf]; exact RcB.drew (put12 (r.s0) (r.s1) (r.s2) (r.sa) (r.sb) (r.s5) (r.s6) (N) (r.s8) (r.b9) (r.s10) (r.b11) (HM.out.x3.other n31))
      have hb : Below b1 w Wf := by
        rw [← hWf]
        refine Below.drew ?_
        repeat' apply Below.setCell
        all_goals first | exact HM.out.bel | exact Nat.le_refl _ | (show b1 ≤ g2; have := HM.out.n12; have := HM.out.n23; omega)
      clear hWf
      refine bodyPost_ret (v := .tuple #[.agg (Rc.cells ⟨r.s0, r.s1, r.s2, r.sa, r.sb, r.s5, r.s6, N, r.s8, r.b9, r.s10, r.b11⟩), .bool true]) ?_ rfl ⟨true, ⟨r.s0, r.s1, r.s2, r.sa, r.sb, r.s5, r.s6, N, r.s8, r.b9, r.s10, r.b11⟩, rfl, by simp [setM, HK.out, HN.out], by rw [HM.out.hb]; exact hb⟩
      exact results_cell2 (p := 4) (u := 5) rfl _ _ g2 34 (Rc.cells ⟨r.s0, r.s1, r.s2, r.sa, r.sb, r.s5, r.s6, N, r.s8, r.b9, r.s10, r.b11⟩) (0, 0) _ rfl hx Try.underlying34 rfl rfl
    · simp only [if_neg hok] at HNU
      have HK := Lib.hid hok
      clear hok
      go_enter Try.func34, Try.ntmps34
      go_upto_region 29 with (go_at_call 47; refine HNU.out.mono ?_; rintro e w1 ⟨rfl, rfl⟩)
      go_region
      go_wp2
      generalize hWf : World.drew _ = Wf
      have hx : RcB Wf g2 ⟨r.s0, r.s1, r.s2, r.sa, r.sb, r.s5, r.s6, -1, r.s8, r.b9, r.s10, r.b11⟩ := by rw [← hWf]; exact RcB.drew (put12 (r.s0) (r.s1) (r.s2) (r.sa) (r.sb) (r.s5) (r.s6) (-1) (r.s8) (r.b9) (r.s10) (r.b11) (HM.out.x3.other n31))
      have hb : Below b1 w Wf := by
        rw [← hWf]
        refine Below.drew ?_
        repeat' apply Below.setCell
        all_goals first | exact HM.out.bel | exact Nat.le_refl _ | (show b1 ≤ g2; have := HM.out.n12; have := HM.out.n23; omega)
      clear hWf
      refine bodyPost_ret (v := .tuple #[.agg (Rc.cells ⟨r.s0, r.s1, r.s2, r.sa, r.sb, r.s5, r.s6, -1, r.s8, r.b9, r.s10, r.b11⟩), .bool false]) ?_ rfl ⟨false, ⟨r.s0, r.s1, r.s2, r.sa, r.sb, r.s5, r.s6, -1, r.s8, r.b9, r.s10, r.b11⟩, rfl, by simp [setM, HK.out], by rw [HM.out.hb]; exact hb⟩
      exact results_cell2 (p := 4) (u := 5) rfl _ _ g2 34 (Rc.cells ⟨r.s0, r.s1, r.s2, r.sa, r.sb, r.s5, r.s6, -1, r.s8, r.b9, r.s10, r.b11⟩) (0, 0) _ rfl hx Try.underlying34 rfl rfl
  by_cases t9 : t = 9
  · subst t9
    by_cases hok : numOk l = true
    · simp only [if_pos hok] at HNU
      have hpos := numD_pos hok HR.out
      obtain ⟨N, hN⟩ : ∃ N, numD l = N := ⟨_, rfl⟩
      rw [hN] at HNU hpos
      have HK := Lib.hid hok; have HN := Lib.hid hN
      clear hok hN
      go_enter Try.func34, Try.ntmps34
      go_upto_region 29 with (go_at_call 47; refine HNU.out.mono ?_; rintro e w1 ⟨rfl, rfl⟩)
      go_region
      go_wp2
      generalize hWf : World.drew _ = Wf
      have hx : RcB Wf g2 ⟨r.s0, r.s1, r.s2, r.sa, r.sb, r.s5, r.s6, r.s7, N, r.b9, r.s10, r.b11⟩ := by rw [← hWf]; exact RcB.drew (put12 (r.s0) (r.s1) (r.s2) (r.sa) (r.sb) (r.s5) (r.s6) (r.s7) (N) (r.b9) (r.s10) (r.b11) (HM.out.x3.other n31))
      have hb : Below b1 w Wf := by
        rw [← hWf]
        refine Below.drew ?_
        repeat' apply Below.setCell
        all_goals first | exact HM.out.bel | exact Nat.le_refl _ | (show b1 ≤ g2; have := HM.out.n12; have := HM.out.n23; omega)
      clear hWf
      refine bodyPost_ret (v := .tuple #[.agg (Rc.cells ⟨r.s0, r.s1, r.s2, r.sa, r.sb, r.s5, r.s6, r.s7, N, r.b9, r.s10, r.b11⟩), .bool true]) ?_ rfl ⟨true, ⟨r.s0, r.s1, r.s2, r.sa, r.sb, r.s5, r.s6, r.s7, N, r.b9, r.s10, r.b11⟩, rfl, by simp [setM, HK.out, HN.out], by rw [HM.out.hb]; exact hb⟩
      exact results_cell2 (p := 4) (u := 5) rfl _ _ g2 34 (Rc.cells ⟨r.s0, r.s1, r.s2, r.sa, r.sb, r.s5, r.s6, r.s7, N, r.b9, r.s10, r.b11⟩) (0, 0) _ rfl hx Try.underlying34 rfl rfl
    · simp only [if_neg hok] at HNU
      have HK := Lib.hid hok
      clear hok
      go_enter Try.func34, Try.ntmps34
      go_upto_region 29 with (go_at_call 47; refine HNU.out.mono ?_; rintro e w1 ⟨rfl, rfl⟩)
      go_region
      go_wp2
      generalize hWf : World.drew _ = Wf
      have hx : RcB Wf g2 ⟨r.s0, r.s1, r.s2, r.sa, r.sb, r.s5, r.s6, r.s7, -1, r.b9, r.s10, r.b11⟩ := by rw [← hWf]; exact RcB.drew (put12 (r.s0) (r.s1) (r.s2) (r.sa) (r.sb) (r.s5) (r.s6) (r.s7) (-1) (r.b9) (r.s10) (r.b11) (HM.out.x3.other n31))
      have hb : Below b1 w Wf := by
        rw [← hWf]
        refine Below.drew ?_
        repeat' apply Below.setCell
        all_goals first | exact HM.out.bel | exact Nat.le_refl _ | (show b1 ≤ g2; have := HM.out.n12; have := HM.out.n23; omega)
      clear hWf
      refine bodyPost_ret (v := .tuple #[.agg (Rc.cells ⟨r.s0, r.s1, r.s2, r.sa, r.sb, r.s5, r.s6, r.s7, -1, r.b9, r.s10, r.b11⟩), .bool false]) ?_ rfl ⟨false, ⟨r.s0, r.s1, r.s2, r.sa, r.sb, r.s5, r.s6, r.s7, -1, r.b9, r.s10, r.b11⟩, rfl, by simp [setM, HK.out], by rw [HM.out.hb]; exact hb⟩
      exact results_cell2 (p := 4) (u := 5) rfl _ _ g2 34 (Rc.cells ⟨r.s0, r.s1, r.s2, r.sa, r.sb, r.s5, r.s6, r.s7, -1, r.b9, r.s10, r.b11⟩) (0, 0) _ rfl hx Try.underlying34 rfl rfl
  by_cases t10 : t = 10
  · subst t10
    by_cases hok : numOk l = true
    · simp only [if_pos hok] at HNU
      have hpos := numD_pos hok HR.out
      obtain ⟨N, hN⟩ : ∃ N, numD l = N := ⟨_, rfl⟩
      rw [hN] at HNU hpos
      have HK := Lib.hid hok; have HN := Lib.hid hN
      clear hok hN
      go_enter Try.func34, Try.ntmps34
      go_upto_region 29 with (go_at_call 47; refine HNU.out.mono ?_; rintro e w1 ⟨rfl, rfl⟩)
      go_region
      go_wp2
      generalize hWf : World.drew _ = Wf
      have hx : RcB Wf g2 ⟨r.s0, r.s1, r.s2, r.sa, r.sb, r.s5, r.s6, r.s7, r.s8, r.b9, N, r.b11⟩ := by rw [← hWf]; exact RcB.drew (put12 (r.s0) (r.s1) (r.s2) (r.sa) (r.sb) (r.s5) (r.s6) (r.s7) (r.s8) (r.b9) (N) (r.b11) (HM.out.x3.other n31))
      have hb : Below b1 w Wf := by
        rw [← hWf]
        refine Below.drew ?_
        repeat' apply Below.setCell
        all_goals first | exact HM.out.bel | exact Nat.le_refl _ | (show b1 ≤ g2; have := HM.out.n12; have := HM.out.n23; omega)
      clear hWf
      refine bodyPost_ret (v := .tuple #[.agg (Rc.cells ⟨r.s0, r.s1, r.s2, r.sa, r.sb, r.s5, r.s6, r.s7, r.s8, r.b9, N, r.b11⟩), .bool true]) ?_ rfl ⟨true, ⟨r.s0, r.s1, r.s2, r.sa, r.sb, r.s5, r.s6, r.s7, r.s8, r.b9, N, r.b11⟩, rfl, by simp [setM, HK.out, HN.out], by rw [HM.out.hb]; exact hb⟩
      exact results_cell2 (p := 4) (u := 5) rfl _ _ g2 34 (Rc.cells ⟨r.s0, r.s1, r.s2, r.sa, r.sb, r.s5, r.s6, r.s7, r.s8, r.b9, N, r.b11⟩) (0, 0) _ rfl hx Try.underlying34 rfl rfl
    · simp only [if_neg hok] at HNU
      have HK := Lib.hid hok
      clear hok
      go_enter Try.func34, Try.ntmps34
      go_upto_region 29 with (go_at_call 47; refine HNU.out.mono ?_; rintro e w1 ⟨rfl, rfl⟩)
      go_region
      go_wp2
      generalize hWf : World.drew _ = Wf
      have hx : RcB Wf g2 ⟨r.s0, r.s1, r.s2, r.sa, r.sb, r.s5, r.s6, r.s7, r.s8, r.b9, -1, r.b11⟩ := by rw [← hWf]; exact RcB.drew (put12 (r.s0) (r.s1) (r.s2) (r.sa) (r.sb) (r.s5) (r.s6) (r.s7) (r.s8) (r.b9) (-1) (r.b11) (HM.out.x3.other n31))
      have hb : Below b1 w Wf := by
        rw [← hWf]
        refine Below.drew ?_
        repeat' apply Below.setCell
        all_goals first | exact HM.out.bel | exact Nat.le_refl _ | (show b1 ≤ g2; have := HM.out.n12; have := HM.out.n23; omega)
      clear hWf
      refine bodyPost_ret (v := .tuple #[.agg (Rc.cells ⟨r.s0, r.s1, r.s2, r.sa, r.sb, r.s5, r.s6, r.s7, r.s8, r.b9, -1, r.b11⟩), .bool false]) ?_ rfl ⟨false, ⟨r.s0, r.s1, r.s2, r.sa, r.sb, r.s5, r.s6, r.s7, r.s8, r.b9, -1, r.b11⟩, rfl, by simp [setM, HK.out], by rw [HM.out.hb]; exact hb⟩
      exact results_cell2 (p := 4) (u := 5) rfl _ _ g2 34 (Rc.cells ⟨r.s0, r.s1, r.s2, r.sa, r.sb, r.s5, r.s6, r.s7, r.s8, r.b9, -1, r.b11⟩) (0, 0) _ rfl hx Try.underlying34 rfl rfl
  by_cases t4 : t = 4
  · subst t4
    have HU := Lib.hid (refUnpack_any A m d l W3 (byt_bts HM.out.y) (Nat.le_trans HM.out.y.cap HM.out.y.max))
    obtain ⟨T, hT⟩ : ∃ T, S (unpL l) = T := ⟨_, rfl⟩
    rw [hT] at HU
    have HT := Lib.hid hT
    clear hT
    by_cases hu : unpE l = 0
    · rw [hu] at HU
      have HK := Lib.hid hu
      clear hu
      go_enter Try.func34, Try.ntmps34
      go_wp2_with (go_at_call 46; refine HU.out.mono ?_; rintro e w4 ⟨rfl, hb4⟩; have HM := Lib.hid (HM.out.step hb4); obtain ⟨k0, k1, k2, k3, k4, k5, k6, k7, k8, k9, k10, k11⟩ := HM.out.x1.cells; obtain ⟨q0, q1, q2, q3, q4, q5, q6, q7, q8, q9, q10, q11⟩ := HM.out.x3.cells; have fr1 := HM.out.x1.fr; have fr3 := HM.out.x3.fr; have e0 := HM.out.e0; have e1 := HM.out.e1; clear hb4)
      refine bodyPost_ret (v := .tuple #[.agg (Rc.cells ⟨r.s0, r.s1, r.s2, T, r.sb, r.s5, r.s6, r.s7, r.s8, r.b9, r.s10, r.b11⟩), .bool true]) ?_ rfl ⟨true, ⟨r.s0, r.s1, r.s2, T, r.sb, r.s5, r.s6, r.s7, r.s8, r.b9, r.s10, r.b11⟩, rfl, by simp [setM, HK.out, HT.out], ?_⟩
      · exact results_cell2 (p := 4) (u := 5) rfl _ _ g2 34 (Rc.cells ⟨r.s0, r.s1, r.s2, T, r.sb, r.s5, r.s6, r.s7, r.s8, r.b9, r.s10, r.b11⟩) (0, 0) _ rfl (put12 (r.s0) (r.s1) (r.s2) (T) (r.sb) (r.s5) (r.s6) (r.s7) (r.s8) (r.b9) (r.s10) (r.b11) (HM.out.x3.other n31)) Try.underlying34 rfl rfl
      · rw [HM.out.hb]
        have n1 := HM.out.n12; have n2 := HM.out.n23
        repeat' apply Below.setCell
        all_goals first | exact HM.out.bel | exact Nat.le_refl _ | (show b1 ≤ g2; omega)
    · obtain ⟨E, hE⟩ : ∃ E, unpE l = E := ⟨_, rfl⟩
      rw [hE] at HU hu
      have heb : (E == 0) = false := by simp [hu]
      have HK := Lib.hid (show unpE l ≠ 0 by rw [hE]; exact hu)
      clear hu hE
      go_enter Try.func34, Try.ntmps34
      go_wp2_with (go_at_call 46; refine HU.out.mono ?_; rintro e w4 ⟨rfl, hb4⟩; have HM := Lib.hid (HM.out.step hb4); obtain ⟨k0, k1, k2, k3, k4, k5, k6, k7, k8, k9, k10, k11⟩ := HM.out.x1.cells; obtain ⟨q0, q1, q2, q3, q4, q5, q6, q7, q8, q9, q10, q11⟩ := HM.out.x3.cells; have fr1 := HM.out.x1.fr; have fr3 := HM.out.x3.fr; have e0 := HM.out.e0; have e1 := HM.out.e1; clear hb4)
      refine bodyPost_ret (v := .tuple #[.agg (Rc.cells ⟨r.s0, r.s1, r.s2, T, r.sb, r.s5, r.s6, r.s7, r.s8, r.b9, r.s10, r.b11⟩), .bool false]) ?_ rfl ⟨false, ⟨r.s0, r.s1, r.s2, T, r.sb, r.s5, r.s6, r.s7, r.s8, r.b9, r.s10, r.b11⟩, rfl, by simp [setM, HK.out], ?_⟩
      · exact results_cell2 (p := 4) (u := 5) rfl _ _ g2 34 (Rc.cells ⟨r.s0, r.s1, r.s2, T, r.sb, r.s5, r.s6, r.s7, r.s8, r.b9, r.s10, r.b11⟩) (0, 0) _ rfl (put12 (r.s0) (r.s1) (r.s2) (T) (r.sb) (r.s5) (r.s6) (r.s7) (r.s8) (r.b9) (r.s10) (r.b11) (HM.out.x3.other n31)) Try.underlying34 rfl rfl
      · rw [HM.out.hb]
        have n1 := HM.out.n12; have n2 := HM.out.n23
        repeat' apply Below.setCell
        all_goals first | exact HM.out.bel | exact Nat.le_refl _ | (show b1 ≤ g2; omega)
  by_cases t5 : t = 5
  · subst t5
    have HU := Lib.hid (refUnpack_any A m d l W3 (byt_bts HM.out.y) (Nat.le_trans HM.out.y.cap HM.out.y.max))
    obtain ⟨T, hT⟩ : ∃ T, S (unpL l) = T := ⟨_, rfl⟩
    rw [hT] at HU
    have HT := Lib.hid hT
    clear hT
    by_cases hu : unpE l = 0
    · rw [hu] at HU
      have HK := Lib.hid hu
      clear hu
      go_enter Try.func34, Try.ntmps34
      go_wp2_with (go_at_call 46; refine HU.out.mono ?_; rintro e w4 ⟨rfl, hb4⟩; have HM := Lib.hid (HM.out.step hb4); obtain ⟨k0, k1, k2, k3, k4, k5, k6, k7, k8, k9, k10, k11⟩ := HM.out.x1.cells; obtain ⟨q0, q1, q2, q3, q4, q5, q6, q7, q8, q9, q10, q11⟩ := HM.out.x3.cells; have fr1 := HM.out.x1.fr; have fr3 := HM.out.x3.fr; have e0 := HM.out.e0; have e1 := HM.out.e1; clear hb4)
      refine bodyPost_ret (v := .tuple #[.agg (Rc.cells ⟨r.s0, r.s1, r.s2, r.sa, T, r.s5, r.s6, r.s7, r.s8, r.b9, r.s10, r.b11⟩), .bool true]) ?_ rfl ⟨true, ⟨r.s0, r.s1, r.s2, r.sa, T, r.s5, r.s6, r.s7, r.s8, r.b9, r.s10, r.b11⟩, rfl, by simp [setM, HK.out, HT.out], ?_⟩
      · exact results_cell2 (p := 4) (u := 5) rfl _ _ g2 34 (Rc.cells ⟨r.s0, r.s1, r.s2, r.sa, T, r.s5, r.s6, r.s7, r.s8, r.b9, r.s10, r.b11⟩) (0, 0) _ rfl (put12 (r.s0) (r.s1) (r.s2) (r.sa) (T) (r.s5) (r.s6) (r.s7) (r.s8) (r.b9) (r.s10) (r.b11) (HM.out.x3.other n31)) Try.underlying34 rfl rfl
      · rw [HM.out.hb]
        have n1 := HM.out.n12; have n2 := HM.out.n23
        repeat' apply Below.setCell
        all_goals first | exact HM.out.bel | exact Nat.le_refl _ | (show b1 ≤ g2; omega)
    · obtain ⟨E, hE⟩ : ∃ E, unpE l = E := ⟨_, rfl⟩
      rw [hE] at HU hu
      have heb : (E == 0) = false := by simp [hu]
      have HK := Lib.hid (show unpE l ≠ 0 by rw [hE]; exact hu)
      clear hu hE
      go_enter Try.func34, Try.ntmps34
      go_wp2_with (go_at_call 46; refine HU.out.mono ?_; rintro e w4 ⟨rfl, hb4⟩; have HM := Lib.hid (HM.out.step hb4); obtain ⟨k0, k1, k2, k3, k4, k5, k6, k7, k8, k9, k10, k11⟩ := HM.out.x1.cells; obtain ⟨q0, q1, q2, q3, q4, q5, q6, q7, q8, q9, q10, q11⟩ := HM.out.x3.cells; have fr1 := HM.out.x1.fr; have fr3 := HM.out.x3.fr; have e0 := HM.out.e0; have e1 := HM.out.e1; clear hb4)
      refine bodyPost_ret (v := .tuple #[.agg (Rc.cells ⟨r.s0, r.s1, r.s2, r.sa, T, r.s5, r.s6, r.s7, r.s8, r.b9, r.s10, r.b11⟩), .bool false]) ?_ rfl ⟨false, ⟨r.s0, r.s1, r.s2, r.sa, T, r.s5, r.s6, r.s7, r.s8, r.b9, r.s10, r.b11⟩, rfl, by simp [setM, HK.out], ?_⟩
      · exact results_cell2 (p := 4) (u := 5) rfl _ _ g2 34 (Rc.cells ⟨r.s0, r.s1, r.s2, r.sa, T, r.s5, r.s6, r.s7, r.s8, r.b9, r.s10, r.b11⟩) (0, 0) _ rfl (put12 (r.s0) (r.s1) (r.s2) (r.sa) (T) (r.s5) (r.s6) (r.s7) (r.s8) (r.b9) (r.s10) (r.b11) (HM.out.x3.other n31)) Try.underlying34 rfl rfl
      · rw [HM.out.hb]
        have n1 := HM.out.n12; have n2 := HM.out.n23
        repeat' apply Below.setCell
        all_goals first | exact HM.out.bel | exact Nat.le_refl _ | (show b1 ≤ g2; omega)
  by_cases t11 : t = 11
  · subst t11
    by_cases hok : numOk l = true
    · simp only [if_pos hok] at HNU
      have hpos := numD_pos hok HR.out
      by_cases hm1 : m = 1
      · subst hm1
        obtain ⟨h, rfl⟩ : ∃ h, l = [h] := by
          have := HL.out
          match l, this with
          | [h], _ => exact ⟨h, rfl⟩
        have hh : numD [h] = h := by simp [numD]
        rw [hh] at HNU hpos
        clear hok hh HR HL
        by_cases h3 : h ≤ 3
        · have hcs : h = 1 ∨ h = 2 ∨ h = 3 := by omega
          clear h3 hpos
          rcases hcs with rfl | rfl | rfl
          · go_enter Try.func34, Try.ntmps34
            go_wp2_with (go_at_call 47; refine HNU.out.mono ?_; rintro e w1 ⟨rfl, rfl⟩)
            refine bodyPost_ret (v := .tuple #[.agg (Rc.cells ⟨r.s0, r.s1, r.s2, r.sa, r.sb, r.s5, r.s6, r.s7, r.s8, true, r.s10, false⟩), .bool true]) ?_ rfl ⟨true, ⟨r.s0, r.s1, r.s2, r.sa, r.sb, r.s5, r.s6, r.s7, r.s8, true, r.s10, false⟩, rfl, by unfold setM; rw [if_neg (by decide), if_neg (by decide), if_pos rfl, if_pos (by decide)]; rfl, ?_⟩
            · exact results_cell2 (p := 4) (u := 5) rfl _ _ g2 34 (Rc.cells ⟨r.s0, r.s1, r.s2, r.sa, r.sb, r.s5, r.s6, r.s7, r.s8, true, r.s10, false⟩) (0, 0) _ rfl (put12 (r.s0) (r.s1) (r.s2) (r.sa) (r.sb) (r.s5) (r.s6) (r.s7) (r.s8) (true) (r.s10) (false) ((HM.out.x3.other n31).other n31)) Try.underlying34 rfl rfl
            · rw [HM.out.hb]
              have n1 := HM.out.n12; have n2 := HM.out.n23
              repeat' apply Below.setCell
              all_goals first | exact HM.out.bel | exact Nat.le_refl _ | (show b1 ≤ g2; omega)
          · go_enter Try.func34, Try.ntmps34
            go_wp2_with (go_at_call 47; refine HNU.out.mono ?_; rintro e w1 ⟨rfl, rfl⟩)
            refine bodyPost_ret (v := .tuple #[.agg (Rc.cells ⟨r.s0, r.s1, r.s2, r.sa, r.sb, r.s5, r.s6, r.s7, r.s8, false, r.s10, true⟩), .bool true]) ?_ rfl ⟨true, ⟨r.s0, r.s1, r.s2, r.sa, r.sb, r.s5, r.s6, r.s7, r.s8, false, r.s10, true⟩, rfl, by unfold setM; rw [if_neg (by decide), if_neg (by decide), if_pos rfl, if_pos (by decide)]; rfl, ?_⟩
            · exact results_cell2 (p := 4) (u := 5) rfl _ _ g2 34 (Rc.cells ⟨r.s0, r.s1, r.s2, r.sa, r.sb, r.s5, r.s6, r.s7, r.s8, false, r.s10, true⟩) (0, 0) _ rfl (put12 (r.s0) (r.s1) (r.s2) (r.sa) (r.sb) (r.s5) (r.s6) (r.s7) (r.s8) (false) (r.s10) (true) ((HM.out.x3.other n31).other n31)) Try.underlying34 rfl rfl
            · rw [HM.out.hb]
              have n1 := HM.out.n12; have n2 := HM.out.n23
              repeat' apply Below.setCell
              all_goals first | exact HM.out.bel | exact Nat.le_refl _ | (show b1 ≤ g2; omega)
          · go_enter Try.func34, Try.ntmps34
            go_wp2_with (go_at_call 47; refine HNU.out.mono ?_; rintro e w1 ⟨rfl, rfl⟩)
            refine bodyPost_ret (v := .tuple #[.agg (Rc.cells ⟨r.s0, r.s1, r.s2, r.sa, r.sb, r.s5, r.s6, r.s7, r.s8, true, r.s10, true⟩), .bool true]) ?_ rfl ⟨true, ⟨r.s0, r.s1, r.s2, r.sa, r.sb, r.s5, r.s6, r.s7, r.s8, true, r.s10, true⟩, rfl, by unfold setM; rw [if_neg (by decide), if_neg (by decide), if_pos rfl, if_pos (by decide)]; rfl, ?_⟩
            · exact results_cell2 (p := 4) (u := 5) rfl _ _ g2 34 (Rc.cells ⟨r.s0, r.s1, r.s2, r.sa, r.sb, r.s5, r.s6, r.s7, r.s8, true, r.s10, true⟩) (0, 0) _ rfl (put12 (r.s0) (r.s1) (r.s2) (r.sa) (r.sb) (r.s5) (r.s6) (r.s7) (r.s8) (true) (r.s10) (true) ((HM.out.x3.other n31).other n31)) Try.underlying34 rfl rfl
            · rw [HM.out.hb]
              have n1 := HM.out.n12; have n2 := HM.out.n23
              repeat' apply Below.setCell
              all_goals first | exact HM.out.bel | exact Nat.le_refl _ | (show b1 ≤ g2; omega)
        · have HNO : Hid (¬ (([h] : List Int).length = 1 ∧ 1 ≤ ([h] : List Int).headD 0 ∧ ([h] : List Int).headD 0 ≤ 3)) := Lib.hid (by intro hx; have := hx.2.2; simp at this; omega)
          have h3' : 3 < h := by omega
          have h1' : 1 ≤ h := by omega
          have h2' : 2 ≤ h := by omega
          have h3b : decide (h ≤ 3) = false := by simp; omega
          clear h3
          go_enter Try.func34, Try.ntmps34
          go_wp2_with (go_at_call 47; refine HNU.out.mono ?_; rintro e w1 ⟨rfl, rfl⟩)
          refine bodyPost_ret (v := .tuple #[.agg (Rc.cells ⟨r.s0, r.s1, r.s2, r.sa, r.sb, r.s5, r.s6, r.s7, r.s8, (h % 2 == 1), r.s10, true⟩), .bool false]) ?_ rfl ⟨false, ⟨r.s0, r.s1, r.s2, r.sa, r.sb, r.s5, r.s6, r.s7, r.s8, (h % 2 == 1), r.s10, true⟩, rfl, by unfold setM; rw [if_neg (by decide), if_neg (by decide), if_pos rfl, if_neg HNO.out]; rfl, ?_⟩
          · exact results_cell2 (p := 4) (u := 5) rfl _ _ g2 34 (Rc.cells ⟨r.s0, r.s1, r.s2, r.sa, r.sb, r.s5, r.s6, r.s7, r.s8, (h % 2 == 1), r.s10, true⟩) (0, 0) _ rfl (put12 (r.s0) (r.s1) (r.s2) (r.sa) (r.sb) (r.s5) (r.s6) (r.s7) (r.s8) ((h % 2 == 1)) (r.s10) (true) ((HM.out.x3.other n31).other n31)) Try.underlying34 rfl rfl
          · rw [HM.out.hb]
            have n1 := HM.out.n12; have n2 := HM.out.n23
            repeat' apply Below.setCell
            all_goals first | exact HM.out.bel | exact Nat.le_refl _ | (show b1 ≤ g2; omega)
      · obtain ⟨N, hN⟩ : ∃ N, numD l = N := ⟨_, rfl⟩
        rw [hN] at HNU hpos
        have hmb : ((m : Int) == 1) = false := by simp; omega
        have HNO : Hid (¬ (l.length = 1 ∧ 1 ≤ l.headD 0 ∧ l.headD 0 ≤ 3)) := Lib.hid (by have := HL.out; omega)
        clear hok hN hm1
        go_enter Try.func34, Try.ntmps34
        go_wp2_with (go_at_call 47; refine HNU.out.mono ?_; rintro e w1 ⟨rfl, rfl⟩)
        refine bodyPost_ret (v := .tuple #[.agg (Rc.cells ⟨r.s0, r.s1, r.s2, r.sa, r.sb, r.s5, r.s6, r.s7, r.s8, (N % 2 == 1), r.s10, decide (2 ≤ N)⟩), .bool false]) ?_ rfl ⟨false, ⟨r.s0, r.s1, r.s2, r.sa, r.sb, r.s5, r.s6, r.s7, r.s8, (N % 2 == 1), r.s10, decide (2 ≤ N)⟩, rfl, by unfold setM; rw [if_neg (by decide), if_neg (by decide), if_pos rfl, if_neg HNO.out]; rfl, ?_⟩
        · exact results_cell2 (p := 4) (u := 5) rfl _ _ g2 34 (Rc.cells ⟨r.s0, r.s1, r.s2, r.sa, r.sb, r.s5, r.s6, r.s7, r.s8, (N % 2 == 1), r.s10, decide (2 ≤ N)⟩) (0, 0) _ rfl (put12 (r.s0) (r.s1) (r.s2) (r.sa) (r.sb) (r.s5) (r.s6) (r.s7) (r.s8) ((N % 2 == 1)) (r.s10) (decide (2 ≤ N)) ((HM.out.x3.other n31).other n31)) Try.underlying34 rfl rfl
        · rw [HM.out.hb]
          have n1 := HM.out.n12; have n2 := HM.out.n23
          repeat' apply Below.setCell
          all_goals first | exact HM.out.bel | exact Nat.le_refl _ | (show b1 ≤ g2; omega)
    · simp only [if_neg hok] at HNU
      have HNO : Hid (¬ (l.length = 1 ∧ 1 ≤ l.headD 0 ∧ l.headD 0 ≤ 3)) := Lib.hid (by
        intro hx
        apply hok
        unfold numOk
        rw [decide_eq_true (show 1 ≤ l.length by omega), decide_eq_true (show l.length ≤ 6 by omega), decide_eq_false (show ¬ l.headD 0 = 0 by omega)]
        rfl)
      clear hok
      by_cases hm1 : m = 1
      · subst hm1
        go_enter Try.func34, Try.ntmps34
        go_wp2_with (go_at_call 47; refine HNU.out.mono ?_; rintro e w1 ⟨rfl, rfl⟩)
        refine bodyPost_ret (v := .tuple #[.agg (Rc.cells ⟨r.s0, r.s1, r.s2, r.sa, r.sb, r.s5, r.s6, r.s7, r.s8, false, r.s10, false⟩), .bool false]) ?_ rfl ⟨false, ⟨r.s0, r.s1, r.s2, r.sa, r.sb, r.s5, r.s6, r.s7, r.s8, false, r.s10, false⟩, rfl, by unfold setM; rw [if_neg (by decide), if_neg (by decide), if_pos rfl, if_neg HNO.out]; rfl, ?_⟩
        · exact results_cell2 (p := 4) (u := 5) rfl _ _ g2 34 (Rc.cells ⟨r.s0, r.s1, r.s2, r.sa, r.sb, r.s5, r.s6, r.s7, r.s8, false, r.s10, false⟩) (0, 0) _ rfl (put12 (r.s0) (r.s1) (r.s2) (r.sa) (r.sb) (r.s5) (r.s6) (r.s7) (r.s8) (false) (r.s10) (false) ((HM.out.x3.other n31).other n31)) Try.underlying34 rfl rfl
        · rw [HM.out.hb]
          have n1 := HM.out.n12; have n2 := HM.out.n23
          repeat' apply Below.setCell
          all_goals first | exact HM.out.bel | exact Nat.le_refl _ | (show b1 ≤ g2; omega)
      · have hmb : ((m : Int) == 1) = false := by simp; omega
        clear hm1
        go_enter Try.func34, Try.ntmps34
        go_wp2_with (go_at_call 47; refine HNU.out.mono ?_; rintro e w1 ⟨rfl, rfl⟩)
        refine bodyPost_ret (v := .tuple #[.agg (Rc.cells ⟨r.s0, r.s1, r.s2, r.sa, r.sb, r.s5, r.s6, r.s7, r.s8, false, r.s10, false⟩), .bool false]) ?_ rfl ⟨false, ⟨r.s0, r.s1, r.s2, r.sa, r.sb, r.s5, r.s6, r.s7, r.s8, false, r.s10, false⟩, rfl, by unfold setM; rw [if_neg (by decide), if_neg (by decide), if_pos rfl, if_neg HNO.out]; rfl, ?_⟩
        · exact results_cell2 (p := 4) (u := 5) rfl _ _ g2 34 (Rc.cells ⟨r.s0, r.s1, r.s2, r.sa, r.sb, r.s5, r.s6, r.s7, r.s8, false, r.s10, false⟩) (0, 0) _ rfl (put12 (r.s0) (r.s1) (r.s2) (r.sa) (r.sb) (r.s5) (r.s6) (r.s7) (r.s8) (false) (r.s10) (false) ((HM.out.x3.other n31).other n31)) Try.underlying34 rfl rfl
        · rw [HM.out.hb]
          have n1 := HM.out.n12; have n2 := HM.out.n23
          repeat' apply Below.setCell
          all_goals first | exact HM.out.bel | exact Nat.le_refl _ | (show b1 ≤ g2; omega)
  have f1 : (t == 1) = false := by simp [t1]
  have f2 : (t == 2) = false := by simp [t2]
  have f3 : (t == 3) = false := by simp [t3]
  have f4 : (t == 4) = false := by simp [t4]
  have f5 : (t == 5) = false := by simp [t5]
  have f6 : (t == 6) = false := by simp [t6]
  have f7 : (t == 7) = false := by simp [t7]
  have f8 : (t == 8) = false := by simp [t8]
  have f9 : (t == 9) = false := by simp [t9]
  have f10 : (t == 10) = false := by simp [t10]
  have f11 : (t == 11) = false := by simp [t11]
  have t12 : (11 : Int) < t := by omega
  have t12b : decide (t ≤ 11) = false := by simp; omega
  have HNO : Hid (setM r t l = none) := Lib.hid (by simp [setM, t1, t2, t3, t4, t5, t6, t7, t8, t9, t10, t11])
  clear t1 t2 t3 t4 t5 t6 t7 t8 t9 t10 t11
  by_cases hok : numOk l = true
  · simp only [if_pos hok] at HNU
    have hpos := numD_pos hok HR.out
    obtain ⟨N, hN⟩ : ∃ N, numD l = N := ⟨_, rfl⟩
    rw [hN] at HNU hpos
    clear hok hN
    go_enter Try.func34, Try.ntmps34
    go_upto_region 29 with (go_at_call 47; refine HNU.out.mono ?_; rintro e w1 ⟨rfl, rfl⟩)
    go_region
    go_wp2
    generalize hWf : World.drew _ = Wf
    have hx : RcB Wf g2 ⟨r.s0, r.s1, r.s2, r.sa, r.sb, r.s5, r.s6, r.s7, r.s8, r.b9, r.s10, r.b11⟩ := by rw [← hWf]; exact RcB.drew (put12 (r.s0) (r.s1) (r.s2) (r.sa) (r.sb) (r.s5) (r.s6) (r.s7) (r.s8) (r.b9) (r.s10) (r.b11) (HM.out.x3))
    have hb : Below b1 w Wf := by
      rw [← hWf]
      refine Below.drew ?_
      repeat' apply Below.setCell
      all_goals first | exact HM.out.bel | exact Nat.le_refl _ | (show b1 ≤ g2; have := HM.out.n12; have := HM.out.n23; omega)
    clear hWf
    refine bodyPost_ret (v := .tuple #[.agg (Rc.cells ⟨r.s0, r.s1, r.s2, r.sa, r.sb, r.s5, r.s6, r.s7, r.s8, r.b9, r.s10, r.b11⟩), .bool false]) ?_ rfl ⟨false, ⟨r.s0, r.s1, r.s2, r.sa, r.sb, r.s5, r.s6, r.s7, r.s8, r.b9, r.s10, r.b11⟩, rfl, HNO.out, by rw [HM.out.hb]; exact hb⟩
    exact results_cell2 (p := 4) (u := 5) rfl _ _ g2 34 (Rc.cells ⟨r.s0, r.s1, r.s2, r.sa, r.sb, r.s5, r.s6, r.s7, r.s8, r.b9, r.s10, r.b11⟩) (0, 0) _ rfl hx Try.underlying34 rfl rfl
  · simp only [if_neg hok] at HNU
    clear hok
    go_enter Try.func34, Try.ntmps34
    go_upto_region 29 with (go_at_call 47; refine HNU.out.mono ?_; rintro e w1 ⟨rfl, rfl⟩)
    go_region
    go_wp2
    generalize hWf : World.drew _ = Wf
    have hx : RcB Wf g2 ⟨r.s0, r.s1, r.s2, r.sa, r.sb, r.s5, r.s6, r.s7, r.s8, r.b9, r.s10, r.b11⟩ := by rw [← hWf]; exact RcB.drew (put12 (r.s0) (r.s1) (r.s2) (r.sa) (r.sb) (r.s5) (r.s6) (r.s7) (r.s8) (r.b9) (r.s10) (r.b11) (HM.out.x3))
    have hb : Below b1 w Wf := by
      rw [← hWf]
      refine Below.drew ?_
      repeat' apply Below.setCell
      all_goals first | exact HM.out.bel | exact Nat.le_refl _ | (show b1 ≤ g2; have := HM.out.n12; have := HM.out.n23; omega)
    clear hWf
    refine bodyPost_ret (v := .tuple #[.agg (Rc.cells ⟨r.s0, r.s1, r.s2, r.sa, r.sb, r.s5, r.s6, r.s7, r.s8, r.b9, r.s10, r.b11⟩), .bool false]) ?_ rfl ⟨false, ⟨r.s0, r.s1, r.s2, r.sa, r.sb, r.s5, r.s6, r.s7, r.s8, r.b9, r.s10, r.b11⟩, rfl, HNO.out, by rw [HM.out.hb]; exact hb⟩
    exact results_cell2 (p := 4) (u := 5) rfl _ _ g2 34 (Rc.cells ⟨r.s0, r.s1, r.s2, r.sa, r.sb, r.s5, r.s6, r.s7, r.s8, r.b9, r.s10, r.b11⟩) (0, 0) _ rfl hx Try.underlying34 rfl rfl
end Go.Proofs.Ytinnmnhaeejfdaa
