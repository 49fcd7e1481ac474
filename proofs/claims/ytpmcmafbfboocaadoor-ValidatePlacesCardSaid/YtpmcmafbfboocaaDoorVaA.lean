/- Walk: the chapter's examples. -/
import Derived.Test.YtpmcmafbfboocaaDoorVaS
import Derived.Test.YtpmcmafbfboocaaDoorVaR
import Derived.RegionTactic
namespace Go.Proofs.YtpmcmafbfboocaaDoor.Va
open Go.RowKit

def rA : Rc := ⟨1, 1, 1, ⟨#[49]⟩, ⟨#[50]⟩, 0, 604800, 0, 0, false, 0, false⟩
def rB : Rc := ⟨1, 1, 1, ⟨#[49]⟩, ⟨#[50]⟩, 0, 604801, 0, 0, false, 0, false⟩
def rC : Rc := ⟨1, 1, 1, ⟨#[49]⟩, ⟨#[50]⟩, 12622780790, 11, 0, 0, false, 0, false⟩
def rD : Rc := ⟨1, 1, 1, ⟨#[49]⟩, ⟨#[50]⟩, 0, 604800, 5, 0, false, 0, false⟩
theorem ckA : chkR rA = 0 := by decide
theorem ckB : chkR rB = 6 := by decide
theorem ckC : chkR rC = 15 := by decide
theorem ckD : chkR rD = 8 := by decide
theorem fzR {W : World} {b : Nat} {r : Rc} (h : RcB W b r) (i : Nat) : W.frozen? ⟨b, i, none⟩ = false := by unfold RcB at h; simp [World.frozen?, h]
theorem put5 {W : World} {b : Nat} {r : Rc} (h : RcB W b r) (x : Int) : RcB (W.setCell ⟨b, 5, none⟩ (.int .i64 x)) b { r with s5 := x } := by
  unfold RcB Rc.cells at *
  simp [World.setCell, Array.getElem?_modify, h]
theorem put6 {W : World} {b : Nat} {r : Rc} (h : RcB W b r) (x : Int) : RcB (W.setCell ⟨b, 6, none⟩ (.int .i64 x)) b { r with s6 := x } := by
  unfold RcB Rc.cells at *
  simp [World.setCell, Array.getElem?_modify, h]
theorem put7 {W : World} {b : Nat} {r : Rc} (h : RcB W b r) (x : Int) : RcB (W.setCell ⟨b, 7, none⟩ (.int .i64 x)) b { r with s7 := x } := by
  unfold RcB Rc.cells at *
  simp [World.setCell, Array.getElem?_modify, h]
theorem far {W : World} {b c : Nat} {r : Rc} (h : RcB W c r) (hne : c ≠ b) (i : Nat) (v : Value) : RcB (W.setCell ⟨b, i, none⟩ v) c r :=
  Blk.far h hne v
/-- The four records of the examples lie in memory. -/
structure Four (w W : World) (g p q t : Nat) (a b c d : Rc) : Prop where
  rg : RcB W g a
  rp : RcB W p b
  rq : RcB W q c
  rt : RcB W t d
  gp : g ≠ p
  gq : g ≠ q
  gt : g ≠ t
  pq : p ≠ q
  pt : p ≠ t
  qt : q ≠ t
  lp : w.heap.size ≤ p
  lq : w.heap.size ≤ q
  lt : w.heap.size ≤ t
  be : Below w.heap.size w W
theorem Four.below {w W W' : World} {g p q t : Nat} {a b c d : Rc} (h : Four w W g p q t a b c d) (hb : Below W.heap.size W W') : Four w W' g p q t a b c d :=
  ⟨h.rg.below hb (heap_lt h.rg), h.rp.below hb (heap_lt h.rp), h.rq.below hb (heap_lt h.rq), h.rt.below hb (heap_lt h.rt), h.gp, h.gq, h.gt, h.pq, h.pt, h.qt, h.lp, h.lq, h.lt, h.be.trans (hb.mono h.be.size)⟩
theorem Four.setP {w W : World} {g p q t : Nat} {a b c d : Rc} (h : Four w W g p q t a b c d) (x : Int) : Four w (W.setCell ⟨p, 6, none⟩ (.int .i64 x)) g p q t a { b with s6 := x } c d :=
  ⟨far h.rg h.gp _ _, put6 h.rp x, far h.rq (Ne.symm h.pq) _ _, far h.rt (Ne.symm h.pt) _ _, h.gp, h.gq, h.gt, h.pq, h.pt, h.qt, h.lp, h.lq, h.lt, Below.setCell h.be (show w.heap.size ≤ (⟨p, 6, none⟩ : Addr).block from h.lp) _⟩
theorem Four.setQ5 {w W : World} {g p q t : Nat} {a b c d : Rc} (h : Four w W g p q t a b c d) (x : Int) : Four w (W.setCell ⟨q, 5, none⟩ (.int .i64 x)) g p q t a b { c with s5 := x } d :=
  ⟨far h.rg h.gq _ _, far h.rp h.pq _ _, put5 h.rq x, far h.rt (Ne.symm h.qt) _ _, h.gp, h.gq, h.gt, h.pq, h.pt, h.qt, h.lp, h.lq, h.lt, Below.setCell h.be (show w.heap.size ≤ (⟨q, 5, none⟩ : Addr).block from h.lq) _⟩
theorem Four.setQ6 {w W : World} {g p q t : Nat} {a b c d : Rc} (h : Four w W g p q t a b c d) (x : Int) : Four w (W.setCell ⟨q, 6, none⟩ (.int .i64 x)) g p q t a b { c with s6 := x } d :=
  ⟨far h.rg h.gq _ _, far h.rp h.pq _ _, put6 h.rq x, far h.rt (Ne.symm h.qt) _ _, h.gp, h.gq, h.gt, h.pq, h.pt, h.qt, h.lp, h.lq, h.lt, Below.setCell h.be (show w.heap.size ≤ (⟨q, 6, none⟩ : Addr).block from h.lq) _⟩
theorem Four.setT {w W : World} {g p q t : Nat} {a b c d : Rc} (h : Four w W g p q t a b c d) (x : Int) : Four w (W.setCell ⟨t, 7, none⟩ (.int .i64 x)) g p q t a b c { d with s7 := x } :=
  ⟨far h.rg h.gt _ _, far h.rp h.pt _ _, far h.rq h.qt _ _, put7 h.rt x, h.gp, h.gq, h.gt, h.pq, h.pt, h.qt, h.lp, h.lq, h.lt, Below.setCell h.be (show w.heap.size ≤ (⟨t, 7, none⟩ : Addr).block from h.lt) _⟩
theorem three {w W1 : World} {g s : Nat} (hW1 : w.alloc (.cells rA.cells 23) = W1) (hg : w.heap.size = g) (hs : W1.heap.size = s) (p q t : Nat) (hp : p = s ∨ p = s + 1 ∨ p = s + 1 + 1) (hq : q = s ∨ q = s + 1 ∨ q = s + 1 + 1) (ht : t = s ∨ t = s + 1 ∨ t = s + 1 + 1) (h1 : p ≠ q) (h2 : p ≠ t) (h3 : q ≠ t) :
    Four w (((W1.alloc (.cells rA.cells 23)).alloc (.cells rA.cells 23)).alloc (.cells rA.cells 23)).drew g p q t rA rA rA rA := by
  have hg0 : RcB W1 g rA := by rw [← hW1, ← hg]; exact heap_alloc_new w _
  have hsz : s = g + 1 := by rw [← hs, ← hW1, ← hg]; simp
  have b1 : RcB (W1.alloc (.cells rA.cells 23)) s rA := by rw [← hs]; exact heap_alloc_new W1 _
  have b2 : RcB ((W1.alloc (.cells rA.cells 23)).alloc (.cells rA.cells 23)) (s + 1) rA := by
    have h := heap_alloc_new (W1.alloc (.cells rA.cells 23)) (.cells rA.cells 23)
    rw [World.size_alloc, hs] at h
    exact h
  have b3 : RcB (((W1.alloc (.cells rA.cells 23)).alloc (.cells rA.cells 23)).alloc (.cells rA.cells 23)) (s + 1 + 1) rA := by
    have h := heap_alloc_new ((W1.alloc (.cells rA.cells 23)).alloc (.cells rA.cells 23)) (.cells rA.cells 23)
    rw [World.size_alloc, World.size_alloc, hs] at h
    exact h
  have hall : ∀ x, x = s ∨ x = s + 1 ∨ x = s + 1 + 1 → RcB (((W1.alloc (.cells rA.cells 23)).alloc (.cells rA.cells 23)).alloc (.cells rA.cells 23)).drew x rA := fun x hx => by
    rcases hx with rfl | rfl | rfl
    · exact Blk.drew (Blk.alloc (Blk.alloc b1 _) _)
    · exact Blk.drew (Blk.alloc b2 _)
    · exact Blk.drew b3
  refine ⟨Blk.drew (Blk.alloc (Blk.alloc (Blk.alloc hg0 _) _) _), hall p hp, hall q hq, hall t ht, by omega, by omega, by omega, h1, h2, h3, by omega, by omega, by omega, ?_⟩
  have hb1 : Below w.heap.size w W1 := by rw [← hW1]; exact (Below.refl _ w).alloc (Nat.le_refl _) _
  exact (((hb1.alloc (by omega) _).alloc (by simp; omega) _).alloc (by simp; omega) _).drew
theorem allEA : allE rA 10 20 = 15 := by decide
/-- What All answers on the first example. -/
theorem all_one (W : World) (S : Nat) (hS : RcB W S rA) :
    Calls Tryd.prog 15 #[.slice (some ⟨S, 0, none⟩) 1 1, .agg #[.int .i64 10, .int .i64 20]] W fun e w' => ∃ v A c, e = .returned (.tuple #[v, .slice A 1 c]) ∧ Below W.heap.size W w' ∧ RjR w' A [(1, 1, 0, 15)] := by
  have hR : RecR W (some ⟨S, 0, none⟩) [rA] := fun k hk => by
    have hk0 : k = 0 := by simp at hk; omega
    subst hk0
    refine ⟨S, 0, rfl, heap_lt hS, fun i hi => ?_⟩
    simp only [Nat.zero_mul, Nat.zero_add]
    exact cell_of_row W S i _ _ (0, 0) hS
  refine (all_any (some ⟨S, 0, none⟩) 1 1 [rA] 10 20 W (fun r hr => by
    rw [List.mem_singleton] at hr; subst hr; decide) hR (fun a ha => by
    obtain rfl := Option.some.inj ha; exact heap_lt hS) rfl (by omega) (by omega) (by decide)).mono ?_
  rintro e w' ⟨v, u, rfl, ho1, ho2, hb⟩
  have hE : rejD [rA] (fun k => allE ([rA].getD k rc0) 10 20) [rA].length = [(1, 1, 0, 15)] := by
    rw [show [rA].length = 0 + 1 from rfl, rejD_no (D := [rA]) (k := 0) (r := rA) (by show allE rA 10 20 ≠ 0; decide) rfl]
    show rejD _ _ 0 ++ [(rA.s0, rA.s1, _, allE rA 10 20)] = _
    rw [allEA]
    rfl
  rw [hE] at ho2
  obtain ⟨A, c, rfl, -, -, hr, -⟩ := rj_own ho2 rfl
  exact ⟨v, A, c, rfl, hb, hr⟩
set_option maxRecDepth 100000 in
set_option maxHeartbeats 8000000 in
theorem alive_any (w : World) (hK : KN w) : Calls Tryd.prog 9 #[] w fun e w' => e = .returned (.bool true) ∧ Below w.heap.size w w' := by
  have HK := Lib.hid hK
  clear hK
  go_enter Tryd.func9, Tryd.ntmps9
  go_wp2_with fail
  obtain ⟨W1, hW1⟩ : ∃ W, w.alloc (.cells #[.int .i64 1, .int .i64 1, .int .i64 1, .string ⟨#[49]⟩, .string ⟨#[50]⟩, .int .i64 0, .int .i64 604800, .int .i64 0, .int .i64 0, .bool false, .int .i64 0, .bool false] 23) = W := ⟨_, rfl⟩
  have HX := Lib.hid (show RcB W1 w.heap.size rA by rw [← hW1]; exact heap_alloc_new w _)
  rw [hW1]
  obtain ⟨c0, c1, c2, c3, c4, c5, c6, c7, c8, c9, c10, c11⟩ := HX.out.cells
  simp only [rA] at c0 c1 c2 c3 c4 c5 c6 c7 c8 c9 c10 c11
  have hgl : w.heap.size < W1.heap.size := heap_lt HX.out
  obtain ⟨g, hg⟩ : ∃ g, w.heap.size = g := ⟨_, rfl⟩
  rw [hg] at c0 c1 c2 c3 c4 c5 c6 c7 c8 c9 c10 c11 hgl
  rename_i Q0 K0 HK0
  have HCA : Hid (∀ w, Calls Tryd.prog 10 #[.agg #[.int .i64 1, .int .i64 1, .int .i64 1, .string ⟨#[49]⟩, .string ⟨#[50]⟩, .int .i64 0, .int .i64 604800, .int .i64 0, .int .i64 0, .bool false, .int .i64 0, .bool false]] w fun e w' => e = .returned (.int .i64 0) ∧ Below w.heap.size w w') := Lib.hid (fun w => by have h := vCheck_any rA (by decide) (by decide) w; rw [ckA] at h; exact h)
  have HCB : Hid (∀ w, Calls Tryd.prog 10 #[.agg #[.int .i64 1, .int .i64 1, .int .i64 1, .string ⟨#[49]⟩, .string ⟨#[50]⟩, .int .i64 0, .int .i64 604801, .int .i64 0, .int .i64 0, .bool false, .int .i64 0, .bool false]] w fun e w' => e = .returned (.int .i64 6) ∧ Below w.heap.size w w') := Lib.hid (fun w => by have h := vCheck_any rB (by decide) (by decide) w; rw [ckB] at h; exact h)
  have HCC : Hid (∀ w, Calls Tryd.prog 10 #[.agg #[.int .i64 1, .int .i64 1, .int .i64 1, .string ⟨#[49]⟩, .string ⟨#[50]⟩, .int .i64 12622780790, .int .i64 11, .int .i64 0, .int .i64 0, .bool false, .int .i64 0, .bool false]] w fun e w' => e = .returned (.int .i64 15) ∧ Below w.heap.size w w') := Lib.hid (fun w => by have h := vCheck_any rC (by decide) (by decide) w; rw [ckC] at h; exact h)
  have HCD : Hid (∀ w, Calls Tryd.prog 10 #[.agg #[.int .i64 1, .int .i64 1, .int .i64 1, .string ⟨#[49]⟩, .string ⟨#[50]⟩, .int .i64 0, .int .i64 604800, .int .i64 5, .int .i64 0, .bool false, .int .i64 0, .bool false]] w fun e w' => e = .returned (.int .i64 8) ∧ Below w.heap.size w w') := Lib.hid (fun w => by have h := vCheck_any rD (by decide) (by decide) w; rw [ckD] at h; exact h)
  have key : ∀ (p q t : Nat) (W2 : World), Four w W2 g p q t rA rA rA rA →
      K0 { tmps := #[.bool false, .pointer (some ⟨g, 0, none⟩), .pointer (some ⟨p, 0, none⟩), .pointer (some ⟨q, 0, none⟩), .pointer (some ⟨t, 0, none⟩), undef, undef, .agg #[.int .i64 1, .int .i64 1, .int .i64 1, .string ⟨#[49]⟩, .string ⟨#[50]⟩, .int .i64 0, .int .i64 604800, .int .i64 0, .int .i64 0, .bool false, .int .i64 0, .bool false], .agg #[.int .i64 1, .int .i64 1, .int .i64 1, .string ⟨#[49]⟩, .string ⟨#[50]⟩, .int .i64 0, .int .i64 604800, .int .i64 0, .int .i64 0, .bool false, .int .i64 0, .bool false], .agg #[.int .i64 1, .int .i64 1, .int .i64 1, .string ⟨#[49]⟩, .string ⟨#[50]⟩, .int .i64 0, .int .i64 604800, .int .i64 0, .int .i64 0, .bool false, .int .i64 0, .bool false], .agg #[.int .i64 1, .int .i64 1, .int .i64 1, .string ⟨#[49]⟩, .string ⟨#[50]⟩, .int .i64 0, .int .i64 604800, .int .i64 0, .int .i64 0, .bool false, .int .i64 0, .bool false], undef, undef, undef, undef, undef, undef, undef, undef, undef, undef, undef, undef, undef, undef, undef, undef, undef, undef, undef, undef, undef, undef, undef, undef, undef, undef, undef, undef, undef, undef, undef, undef, undef, undef, undef, undef, undef, undef, undef, undef, undef, undef, undef, undef, undef, undef, undef, undef, undef, undef, undef], defers := [] } W2 := by
    intro p q t W2 hf
    refine HK0 _ _ ?_
    have HF0 := Lib.hid hf
    clear HK0 hW1 c0 c1 c2 c3 c4 c5 c6 c7 c8 c9 c10 c11 hgl hf
    refine wp_seq_k fun K1 h1 => ?_
    have H1 := Lib.hid h1
    clear h1
    obtain ⟨c0, c1, c2, c3, c4, c5, c6, c7, c8, c9, c10, c11⟩ := HF0.out.rp.cells
    have fz := fzR HF0.out.rp 6
    go_wp2_with fail
    have F1 := Lib.hid (HF0.out.setP 604801)
    clear c0 c1 c2 c3 c4 c5 c6 c7 c8 c9 c10 c11 fz
    refine H1.out _ _ ?_
    clear H1
    obtain ⟨WF1, hWF1⟩ : ∃ W, W2.setCell ⟨p, 6, none⟩ (.int .i64 604801) = W := ⟨_, rfl⟩
    rw [hWF1] at F1 ⊢
    clear hWF1
    refine wp_seq_k fun K2 h2 => ?_
    have H2 := Lib.hid h2
    clear h2
    obtain ⟨c0, c1, c2, c3, c4, c5, c6, c7, c8, c9, c10, c11⟩ := F1.out.rq.cells
    have fz := fzR F1.out.rq 5
    go_wp2_with fail
    have F2 := Lib.hid (F1.out.setQ5 12622780790)
    clear c0 c1 c2 c3 c4 c5 c6 c7 c8 c9 c10 c11 fz
    refine H2.out _ _ ?_
    clear H2
    obtain ⟨WF2, hWF2⟩ : ∃ W, WF1.setCell ⟨q, 5, none⟩ (.int .i64 12622780790) = W := ⟨_, rfl⟩
    rw [hWF2] at F2 ⊢
    clear hWF2
    refine wp_seq_k fun K3 h3 => ?_
    have H3 := Lib.hid h3
    clear h3
    obtain ⟨c0, c1, c2, c3, c4, c5, c6, c7, c8, c9, c10, c11⟩ := F2.out.rq.cells
    have fz := fzR F2.out.rq 6
    go_wp2_with fail
    have F3 := Lib.hid (F2.out.setQ6 11)
    clear c0 c1 c2 c3 c4 c5 c6 c7 c8 c9 c10 c11 fz
    refine H3.out _ _ ?_
    clear H3
    obtain ⟨WF3, hWF3⟩ : ∃ W, WF2.setCell ⟨q, 6, none⟩ (.int .i64 11) = W := ⟨_, rfl⟩
    rw [hWF3] at F3 ⊢
    clear hWF3
    refine wp_seq_k fun K4 h4 => ?_
    have H4 := Lib.hid h4
    clear h4
    obtain ⟨c0, c1, c2, c3, c4, c5, c6, c7, c8, c9, c10, c11⟩ := F3.out.rt.cells
    have fz := fzR F3.out.rt 7
    go_wp2_with fail
    have F4 := Lib.hid (F3.out.setT 5)
    clear c0 c1 c2 c3 c4 c5 c6 c7 c8 c9 c10 c11 fz
    refine H4.out _ _ ?_
    clear H4
    obtain ⟨WF4, hWF4⟩ : ∃ W, WF3.setCell ⟨t, 7, none⟩ (.int .i64 5) = W := ⟨_, rfl⟩
    rw [hWF4] at F4 ⊢
    clear hWF4
    simp only [rA] at F4
    have HKN := Lib.hid (HK.out.below F4.out.be)
    obtain ⟨c0, c1, c2, c3, c4, c5, c6, c7, c8, c9, c10, c11⟩ := F4.out.rg.cells
    simp only at c0 c1 c2 c3 c4 c5 c6 c7 c8 c9 c10 c11
    have HS : Hid (RcB (WF4.alloc (.cells #[.int .i64 1, .int .i64 1, .int .i64 1, .string ⟨#[49]⟩, .string ⟨#[50]⟩, .int .i64 0, .int .i64 604800, .int .i64 0, .int .i64 0, .bool false, .int .i64 0, .bool false] 23)) WF4.heap.size rA) := Lib.hid (heap_alloc_new WF4 _)
    have HAO := Lib.hid (all_one _ _ HS.out)
    have HF4 := Lib.hid (F4.out.below ((Below.refl _ WF4).alloc (Nat.le_refl _) (.cells #[.int .i64 1, .int .i64 1, .int .i64 1, .string ⟨#[49]⟩, .string ⟨#[50]⟩, .int .i64 0, .int .i64 604800, .int .i64 0, .int .i64 0, .bool false, .int .i64 0, .bool false] 23)))
    have nq := neqRej_same 1 1 0 15
    have gq := guardRej
    go_wp2_with (first
      | (go_at_call 15; (with_reducible refine HAO.out.mono ?_); rintro e w1 ⟨v1, A1, m1, rfl, hb1, hr1⟩; have F5 := Lib.hid (HF4.out.below hb1); obtain ⟨bk, off, rfl, hbl, e0, e1, e2, e3⟩ := hr1 0 (by decide); simp only [List.getD_cons_zero] at e0 e1 e2 e3; rw [Nat.zero_mul, Nat.add_zero] at e0 e1 e2 e3; clear c0 c1 c2 c3 c4 c5 c6 c7 c8 c9 c10 c11; obtain ⟨c0, c1, c2, c3, c4, c5, c6, c7, c8, c9, c10, c11⟩ := F5.out.rg.cells; simp only at c0 c1 c2 c3 c4 c5 c6 c7 c8 c9 c10 c11; clear hb1 hr1 hbl)
      | (go_at_call 10; (with_reducible refine (HCA.out _).mono ?_); rintro e w2 ⟨rfl, hb2⟩; have F6 := Lib.hid (F5.out.below hb2); clear c0 c1 c2 c3 c4 c5 c6 c7 c8 c9 c10 c11; obtain ⟨c0, c1, c2, c3, c4, c5, c6, c7, c8, c9, c10, c11⟩ := F6.out.rp.cells; simp only at c0 c1 c2 c3 c4 c5 c6 c7 c8 c9 c10 c11; clear hb2)
      | (go_at_call 10; (with_reducible refine (HCB.out _).mono ?_); rintro e w3 ⟨rfl, hb3⟩; have F7 := Lib.hid (F6.out.below hb3); clear c0 c1 c2 c3 c4 c5 c6 c7 c8 c9 c10 c11; obtain ⟨c0, c1, c2, c3, c4, c5, c6, c7, c8, c9, c10, c11⟩ := F7.out.rq.cells; simp only at c0 c1 c2 c3 c4 c5 c6 c7 c8 c9 c10 c11; clear hb3)
      | (go_at_call 10; (with_reducible refine (HCC.out _).mono ?_); rintro e w4 ⟨rfl, hb4⟩; have F8 := Lib.hid (F7.out.below hb4); clear c0 c1 c2 c3 c4 c5 c6 c7 c8 c9 c10 c11; obtain ⟨c0, c1, c2, c3, c4, c5, c6, c7, c8, c9, c10, c11⟩ := F8.out.rt.cells; simp only at c0 c1 c2 c3 c4 c5 c6 c7 c8 c9 c10 c11; clear hb4)
      | (go_at_call 10; (with_reducible refine (HCD.out _).mono ?_); rintro e w5 ⟨rfl, hb5⟩; have F9 := Lib.hid (F8.out.below hb5); have HNM := Lib.hid (name_any 3 w5 (HK.out.below F9.out.be)); have HK1 := Lib.hid (kind_any ⟨#[116, 101, 120, 116]⟩ w5 (HK.out.below F9.out.be)); have HK2 := Lib.hid (kind_any ⟨#[84, 101, 120, 116]⟩ w5 (HK.out.below F9.out.be)); rw [show nmZ 3 = ⟨#[100, 97, 116, 97]⟩ from rfl] at HNM; rw [show knd ⟨#[116, 101, 120, 116]⟩ = 2 by decide] at HK1; rw [show knd ⟨#[84, 101, 120, 116]⟩ = 0 by decide] at HK2; clear hb5)
      | (go_at_call 19; (with_reducible refine HNM.out.mono ?_); rintro e w6 ⟨rfl, rfl⟩)
      | (go_at_call 21; (with_reducible refine HK1.out.mono ?_); rintro e w6 ⟨rfl, rfl⟩)
      | (go_at_call 21; (with_reducible refine HK2.out.mono ?_); rintro e w6 ⟨rfl, rfl⟩))
    go_ret
    exact ⟨rfl, F9.out.be⟩
  have HKEY := Lib.hid key
  clear key HK0 HCA HCB HCC HCD HK
  obtain ⟨s, hs⟩ : ∃ s, W1.heap.size = s := ⟨_, rfl⟩
  have n0 : s ≠ g := by omega
  have n1 : s + 1 ≠ g := by omega
  have n2 : s + 1 + 1 ≠ g := by omega
  have r1 : ∀ o1 i, (W1.alloc o1).cell? ⟨g, i, none⟩ = W1.cell? ⟨g, i, none⟩ := fun _ i => Below.cell (B := g + 1) (p := ⟨g, i, none⟩) ((Below.refl _ W1).alloc (by omega) _) (by show g < g + 1; omega)
  have r2 : ∀ o1 o2 i, ((W1.alloc o1).alloc o2).cell? ⟨g, i, none⟩ = W1.cell? ⟨g, i, none⟩ := fun _ _ i => Below.cell (B := g + 1) (p := ⟨g, i, none⟩) (((Below.refl _ W1).alloc (by omega) _).alloc (by simp; omega) _) (by show g < g + 1; omega)
  have r3 : ∀ o1 o2 o3 i, (((W1.alloc o1).alloc o2).alloc o3).cell? ⟨g, i, none⟩ = W1.cell? ⟨g, i, none⟩ := fun _ _ _ i => Below.cell (B := g + 1) (p := ⟨g, i, none⟩) ((((Below.refl _ W1).alloc (by omega) _).alloc (by simp; omega) _).alloc (by simp; omega) _) (by show g < g + 1; omega)
  have HFR : Hid (∀ p q t, (p = s ∨ p = s + 1 ∨ p = s + 1 + 1) → (q = s ∨ q = s + 1 ∨ q = s + 1 + 1) → (t = s ∨ t = s + 1 ∨ t = s + 1 + 1) → p ≠ q → p ≠ t → q ≠ t → Four w (((W1.alloc (.cells #[.int .i64 1, .int .i64 1, .int .i64 1, .string ⟨#[49]⟩, .string ⟨#[50]⟩, .int .i64 0, .int .i64 604800, .int .i64 0, .int .i64 0, .bool false, .int .i64 0, .bool false] 23)).alloc (.cells #[.int .i64 1, .int .i64 1, .int .i64 1, .string ⟨#[49]⟩, .string ⟨#[50]⟩, .int .i64 0, .int .i64 604800, .int .i64 0, .int .i64 0, .bool false, .int .i64 0, .bool false] 23)).alloc (.cells #[.int .i64 1, .int .i64 1, .int .i64 1, .string ⟨#[49]⟩, .string ⟨#[50]⟩, .int .i64 0, .int .i64 604800, .int .i64 0, .int .i64 0, .bool false, .int .i64 0, .bool false] 23)).drew g p q t rA rA rA rA) := Lib.hid (three hW1 hg hs)
  clear hW1 hgl
  rw [hg]
  go_region
  all_goals
    refine HKEY.out _ _ _ _ (HFR.out _ _ _ ?_ ?_ ?_ ?_ ?_ ?_) <;> omega
end Go.Proofs.YtpmcmafbfboocaaDoor.Va
