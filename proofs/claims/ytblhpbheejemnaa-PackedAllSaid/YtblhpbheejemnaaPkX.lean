/- Walk: read of the program. -/
import Derived.Test.YtblhpbheejemnaaPkT
namespace Go.Proofs.Ytblhpbheejemnaa
open Go.RowKit

def rcZ : Rc := ⟨0, 0, 0, ⟨#[]⟩, ⟨#[]⟩, 0, 0, 0, 0, false, 0, false⟩
/-- A field of the bytes. -/
def fd (l : List Int) (a s : Nat) : List Int := (l.drop a).take s
/-- The record that bytes denote, valid or not; and whether a field does not have its form. -/
def rdR (l : List Int) : Rc := ⟨(deL (fd l 0 1)).1, (deL (fd l 1 5)).1, l.getD 6 0 / 16, strOfNums (txP (fd l 7 8) 15).1, strOfNums (txP (fd l 15 8) 15).1, (deL (fd l 23 6)).1, (deL (fd l 29 7)).1, (deL (fd l 36 5)).1, (deL (fd l 41 1)).1, decide (l.getD 6 0 % 2 = 1), (deL (fd l 42 2)).1, decide (l.getD 6 0 / 2 % 2 = 1)⟩
def bad (l : List Int) : Bool := !decide ((deL l).2 = 0)
def rdW (l : List Int) : Bool := ((((((((((false || bad (fd l 0 1)) || bad (fd l 1 5)) || decide (3 < l.getD 6 0 % 16)) || !(txP (fd l 7 8) 15).2) || !(txP (fd l 15 8) 15).2) || bad (fd l 23 6)) || bad (fd l 29 7)) || bad (fd l 36 5)) || bad (fd l 41 1)) || bad (fd l 42 2))
/-- What read has made so far. -/
structure RdI (w : World) (g b o n c : Nat) (l : List Int) (f : Bool) (r : Rc) (W : World) : Prop where
  rd : RdS W g b o n c l f
  rc : RcB W (g + 1) r
  rz : RcB W w.heap.size rcZ
  bel : Below w.heap.size w W
  bb : b < w.heap.size
  hg : w.heap.size < g
theorem gr_far {a b : World} {g : Nat} (k : a.grownBy b (some g)) {q : Nat} {r : Rc} (h : RcB a q r) (hne : q ≠ g) : RcB b q r := RcB.grown h k hne
theorem RdI.call {w : World} {g b o n c s : Nat} {l : List Int} {f f' : Bool} {r : Rc} {W W' : World} (h : RdI w g b o n c l f r W) (ht : TakeOut W g b o n c s l f' W') : RdI w g b (o + s) (n - s) (c - s) (l.drop s) f' r W' where
  rd := ht.1
  rc := gr_far ht.2 h.rc (by omega)
  rz := gr_far ht.2 h.rz (by have := h.hg; omega)
  bel := h.bel.grown ht.2 h.bel.size (fun k hk => by injection hk with hk; have := h.hg; omega)
  bb := h.bb
  hg := h.hg
theorem RdI.stor {w : World} {g b o n c : Nat} {l : List Int} {f : Bool} {r r' : Rc} {W : World} (h : RdI w g b o n c l f r W) (i : Nat) (v : Value) (hr : RcB (W.setCell ⟨g + 1, i, none⟩ v) (g + 1) r') : RdI w g b o n c l f r' (W.setCell ⟨g + 1, i, none⟩ v) where
  rd := h.rd.grow (grown_set1 _ _ _ _) (fun e => by injection e with e; omega) (fun e => by injection e with e; have := h.bb; have := h.hg; omega)
  rc := hr
  rz := gr_far (grown_set1 _ _ _ _) h.rz (by have := h.hg; omega)
  bel := h.bel.setCell (p := ⟨g + 1, i, none⟩) (by have := h.hg; show w.heap.size ≤ g + 1; omega) _
  bb := h.bb
  hg := h.hg
/-- What read gives. -/
def ReadOut (l : List Int) (w : World) (e : Ending) (w' : World) : Prop :=
  e = .returned (.tuple #[.agg (rdR l).cells, .bool (!rdW l)]) ∧ Below w.heap.size w w'
theorem readOut_of {l : List Int} {w w' : World} {e : Ending} (h1 : e = .returned (.tuple #[.agg (rdR l).cells, .bool (!rdW l)])) (h2 : Below w.heap.size w w') : ReadOut l w e w' := ⟨h1, h2⟩
theorem below_drew1 {B : Nat} {a w : World} (h : Below B a w) : Below B a w.drew := ⟨h.os, h.tape, h.output, h.size, h.block⟩
theorem fd_drop (l : List Int) (a s : Nat) : (l.drop a).take s = fd l a s := rfl
theorem fd_zero (l : List Int) (s : Nat) : l.take s = fd l 0 s := rfl
theorem bad_def (l : List Int) : (!decide ((deL l).2 = 0)) = bad l := rfl
set_option maxRecDepth 100000 in
set_option maxHeartbeats 16000000 in
theorem read_any {w : World} {b o c : Nat} {l : List Int} (h : Byt w (some ⟨b, o, none⟩) 44 c l) (hc : 44 < c) (hb : b < w.heap.size) :
    Calls Try.prog 30 #[.slice (some ⟨b, o, none⟩) 44 c] w (ReadOut l w) := by
  have hlen := h.len
  obtain ⟨x6, hx6⟩ : ∃ x, l[6]? = some x := ⟨_, List.getElem?_eq_getElem (by omega)⟩
  have hg6 : l.getD 6 0 = x6 := by rw [List.getD_eq_getElem?_getD, hx6]; rfl
  have HX6 : Hid ((l.drop 6)[0]? = some x6) := Lib.hid (by rw [List.getElem?_drop]; exact hx6)
  obtain ⟨W1, hW1, hb1, hx1, hs1⟩ := rec_world w rcZ
  obtain ⟨W2, hW2⟩ : ∃ W, W1.alloc (.cells #[.slice (some ⟨b, o, none⟩) 44 c, .bool false] 69) = W := ⟨_, rfl⟩
  have hs2 : W2.heap.size = W1.heap.size + 1 := by rw [← hW2]; simp
  have hb2 : Below W1.heap.size W1 W2 := by rw [← hW2]; exact below_lit _ _
  obtain ⟨W3, hW3, hb3, hx3, hs3⟩ := rec_world W2 rcZ
  have hi0 : RdI w W1.heap.size b o 44 c l false rcZ W3 := ⟨⟨by
      rw [hb3.block _ (by omega), ← hW2]
      exact heap_alloc_new W1 _, h.below (hb1.trans ((hb2.trans (hb3.mono hb2.size)).mono hb1.size)), by omega, hc, by omega⟩, by rw [← hs2]; exact hx3, (hx1.below hb2 (by omega)).below hb3 (by omega), hb1.trans ((hb2.trans (hb3.mono hb2.size)).mono hb1.size), hb, by omega⟩
  rw [← hW3, ← hW2] at hi0
  have HI0 := Lib.hid hi0
  have HG6 := Lib.hid hg6
  have HL1 := Lib.hid hs1
  simp only [Rc.cells, rcZ] at hW1
  unfold Rc.cells rcZ at HI0
  clear h hc hb hlen hx6 hg6 hb1 hx1 hs2 hb2 hb3 hx3 hs3 hs1 hW2 hW3 hi0
  clear W2 W3
  go_enter Try.func30, Try.ntmps30
  go_wp2_with (first
    | (go_at_call 40; (with_reducible refine (rdDec_any 1 1 rfl HI0.out.rd (by decide)).mono ?_); rintro e w1 ⟨rfl, ht⟩; have HI1 := Lib.hid (HI0.out.call ht); simp only [List.drop_drop, Nat.reduceAdd, Nat.reduceSub] at HI1; clear ht)
    | (go_at_call 40; (with_reducible refine (rdDec_any 5 5 rfl HI1.out.rd (by decide)).mono ?_); rintro e w2 ⟨rfl, ht⟩; have HI2 := Lib.hid (HI1.out.call ht); simp only [List.drop_drop, Nat.reduceAdd, Nat.reduceSub] at HI2; clear ht; obtain ⟨y0, hy0⟩ : ∃ v, w2.cell? ⟨W1.heap.size + 1, 0, none⟩ = some v := ⟨_, HI2.out.rc.cells.1⟩; have hz0 := HI2.out.rc.fr 0; obtain ⟨y1, hy1⟩ : ∃ v, w2.cell? ⟨W1.heap.size + 1, 1, none⟩ = some v := ⟨_, HI2.out.rc.cells.2.1⟩; have hz1 := HI2.out.rc.fr 1)
    | (go_at_call 41; (with_reducible refine (rdKind_any ((HI2.out.stor 0 _ (HI2.out.rc.set0 _)).stor 1 _ ((HI2.out.stor 0 _ (HI2.out.rc.set0 _)).rc.set1 _)).rd (by decide) HX6.out).mono ?_); rintro e w3 ⟨rfl, ht⟩; have HI3 := Lib.hid (((HI2.out.stor 0 _ (HI2.out.rc.set0 _)).stor 1 _ ((HI2.out.stor 0 _ (HI2.out.rc.set0 _)).rc.set1 _)).call ht); simp only [List.drop_drop, Nat.reduceAdd, Nat.reduceSub] at HI3; clear ht; obtain ⟨y2, hy2⟩ : ∃ v, w3.cell? ⟨W1.heap.size + 1, 2, none⟩ = some v := ⟨_, HI3.out.rc.cells.2.2.1⟩; have hz2 := HI3.out.rc.fr 2; obtain ⟨y9, hy9⟩ : ∃ v, w3.cell? ⟨W1.heap.size + 1, 9, none⟩ = some v := ⟨_, HI3.out.rc.cells.2.2.2.2.2.2.2.2.2.1⟩; have hz9 := HI3.out.rc.fr 9; obtain ⟨y11, hy11⟩ : ∃ v, w3.cell? ⟨W1.heap.size + 1, 11, none⟩ = some v := ⟨_, HI3.out.rc.cells.2.2.2.2.2.2.2.2.2.2.2⟩; have hz11 := HI3.out.rc.fr 11)
    | (go_at_call 42; (with_reducible refine (phone8_any (((HI3.out.stor 2 _ (HI3.out.rc.set2 _)).stor 9 _ ((HI3.out.stor 2 _ (HI3.out.rc.set2 _)).rc.set9 _)).stor 11 _ (((HI3.out.stor 2 _ (HI3.out.rc.set2 _)).stor 9 _ ((HI3.out.stor 2 _ (HI3.out.rc.set2 _)).rc.set9 _)).rc.set11 _)).rd (by decide)).mono ?_); rintro e w4 ⟨rfl, ht⟩; have HI4 := Lib.hid ((((HI3.out.stor 2 _ (HI3.out.rc.set2 _)).stor 9 _ ((HI3.out.stor 2 _ (HI3.out.rc.set2 _)).rc.set9 _)).stor 11 _ (((HI3.out.stor 2 _ (HI3.out.rc.set2 _)).stor 9 _ ((HI3.out.stor 2 _ (HI3.out.rc.set2 _)).rc.set9 _)).rc.set11 _)).call ht); simp only [List.drop_drop, Nat.reduceAdd, Nat.reduceSub] at HI4; clear ht)
    | (go_at_call 42; (with_reducible refine (phone8_any HI4.out.rd (by decide)).mono ?_); rintro e w5 ⟨rfl, ht⟩; have HI5 := Lib.hid (HI4.out.call ht); simp only [List.drop_drop, Nat.reduceAdd, Nat.reduceSub] at HI5; clear ht; obtain ⟨y3, hy3⟩ : ∃ v, w5.cell? ⟨W1.heap.size + 1, 3, none⟩ = some v := ⟨_, HI5.out.rc.cells.2.2.2.1⟩; have hz3 := HI5.out.rc.fr 3; obtain ⟨y4, hy4⟩ : ∃ v, w5.cell? ⟨W1.heap.size + 1, 4, none⟩ = some v := ⟨_, HI5.out.rc.cells.2.2.2.2.1⟩; have hz4 := HI5.out.rc.fr 4)
    | (go_at_call 40; (with_reducible refine (rdDec_any 6 6 rfl ((HI5.out.stor 3 _ (HI5.out.rc.set3 _)).stor 4 _ ((HI5.out.stor 3 _ (HI5.out.rc.set3 _)).rc.set4 _)).rd (by decide)).mono ?_); rintro e w6 ⟨rfl, ht⟩; have HI6 := Lib.hid (((HI5.out.stor 3 _ (HI5.out.rc.set3 _)).stor 4 _ ((HI5.out.stor 3 _ (HI5.out.rc.set3 _)).rc.set4 _)).call ht); simp only [List.drop_drop, Nat.reduceAdd, Nat.reduceSub] at HI6; clear ht)
    | (go_at_call 40; (with_reducible refine (rdDec_any 7 7 rfl HI6.out.rd (by decide)).mono ?_); rintro e w7 ⟨rfl, ht⟩; have HI7 := Lib.hid (HI6.out.call ht); simp only [List.drop_drop, Nat.reduceAdd, Nat.reduceSub] at HI7; clear ht; obtain ⟨y5, hy5⟩ : ∃ v, w7.cell? ⟨W1.heap.size + 1, 5, none⟩ = some v := ⟨_, HI7.out.rc.cells.2.2.2.2.2.1⟩; have hz5 := HI7.out.rc.fr 5; obtain ⟨y6, hy6⟩ : ∃ v, w7.cell? ⟨W1.heap.size + 1, 6, none⟩ = some v := ⟨_, HI7.out.rc.cells.2.2.2.2.2.2.1⟩; have hz6 := HI7.out.rc.fr 6)
    | (go_at_call 40; (with_reducible refine (rdDec_any 5 5 rfl ((HI7.out.stor 5 _ (HI7.out.rc.set5 _)).stor 6 _ ((HI7.out.stor 5 _ (HI7.out.rc.set5 _)).rc.set6 _)).rd (by decide)).mono ?_); rintro e w8 ⟨rfl, ht⟩; have HI8 := Lib.hid (((HI7.out.stor 5 _ (HI7.out.rc.set5 _)).stor 6 _ ((HI7.out.stor 5 _ (HI7.out.rc.set5 _)).rc.set6 _)).call ht); simp only [List.drop_drop, Nat.reduceAdd, Nat.reduceSub] at HI8; clear ht)
    | (go_at_call 40; (with_reducible refine (rdDec_any 1 1 rfl HI8.out.rd (by decide)).mono ?_); rintro e w9 ⟨rfl, ht⟩; have HI9 := Lib.hid (HI8.out.call ht); simp only [List.drop_drop, Nat.reduceAdd, Nat.reduceSub] at HI9; clear ht)
    | (go_at_call 40; (with_reducible refine (rdDec_any 2 2 rfl HI9.out.rd (by decide)).mono ?_); rintro e w10 ⟨rfl, ht⟩; have HI10 := Lib.hid (HI9.out.call ht); simp only [List.drop_drop, Nat.reduceAdd, Nat.reduceSub] at HI10; clear ht; obtain ⟨y7, hy7⟩ : ∃ v, w10.cell? ⟨W1.heap.size + 1, 7, none⟩ = some v := ⟨_, HI10.out.rc.cells.2.2.2.2.2.2.2.1⟩; have hz7 := HI10.out.rc.fr 7; obtain ⟨y8, hy8⟩ : ∃ v, w10.cell? ⟨W1.heap.size + 1, 8, none⟩ = some v := ⟨_, HI10.out.rc.cells.2.2.2.2.2.2.2.2.1⟩; have hz8 := HI10.out.rc.fr 8; obtain ⟨y10, hy10⟩ : ∃ v, w10.cell? ⟨W1.heap.size + 1, 10, none⟩ = some v := ⟨_, HI10.out.rc.cells.2.2.2.2.2.2.2.2.2.2.1⟩; have hz10 := HI10.out.rc.fr 10))
  obtain ⟨Wz, hWz⟩ : ∃ W, ((w10.setCell ⟨W1.heap.size + 1, 7, none⟩ (.int .i64 (deL (List.take 5 (List.drop 36 l))).1)).setCell ⟨W1.heap.size + 1, 8, none⟩ (.int .i64 (deL (List.take 1 (List.drop 41 l))).1)).setCell ⟨W1.heap.size + 1, 10, none⟩ (.int .i64 (deL (List.take 2 (List.drop 42 l))).1) = W := ⟨_, rfl⟩
  have hi7 := HI10.out.stor 7 (.int .i64 (deL (List.take 5 (List.drop 36 l))).1) (HI10.out.rc.set7 _)
  have hi8 := hi7.stor 8 (.int .i64 (deL (List.take 1 (List.drop 41 l))).1) (hi7.rc.set8 _)
  have hiz := hi8.stor 10 (.int .i64 (deL (List.take 2 (List.drop 42 l))).1) (hi8.rc.set10 _)
  rw [hWz] at hiz ⊢
  have hfl : Wz.cell? ⟨W1.heap.size, 1, none⟩ = some (.bool (rdW l)) := by
    have h := hiz.rd.cells.2.1
    unfold rdW bad fd
    rw [HG6.out]
    simp only [List.drop_one, List.drop_zero] at h ⊢
    exact h
  have hrc : RcB Wz (W1.heap.size + 1) (rdR l) := by
    have h := hiz.rc
    unfold rdR fd
    rw [HG6.out]
    simp only [List.drop_one, List.drop_zero] at h ⊢
    exact h
  have HZ := Lib.hid hiz.rz
  have HBL := Lib.hid hiz.bel
  obtain ⟨ff, hff⟩ : ∃ ff, rdW l = ff := ⟨_, rfl⟩
  have HFF := Lib.hid hff
  rw [hff] at hfl
  obtain ⟨rr, hrr⟩ : ∃ rr, rdR l = rr := ⟨_, rfl⟩
  have HRR := Lib.hid hrr
  rw [hrr] at hrc
  obtain ⟨c0, c1, c2, c3, c4, c5, c6, c7, c8, c9, c10, c11⟩ := hrc.cells
  have HRC := Lib.hid hrc
  obtain ⟨s0, s1, s2, sa, sb, s5, s6, s7, s8, b9, s10, b11⟩ := rr
  simp only at c0 c1 c2 c3 c4 c5 c6 c7 c8 c9 c10 c11
  obtain ⟨z0, z1, z2, z3, z4, z5, z6, z7, z8, z9, z10, z11⟩ := HZ.out.cells
  have zf := HZ.out.fr
  clear hW1 hWz hi7 hi8 hiz hff hrr hrc y7 hy7 hz7 y8 hy8 hz8 y10 hy10 hz10
  have hn1 : ¬ (W1.heap.size = w.heap.size) := by have := HL1.out; omega
  have hn2 : ¬ (w.heap.size = W1.heap.size) := by have := HL1.out; omega
  have hn3 : ¬ (W1.heap.size + 1 = w.heap.size) := by have := HL1.out; omega
  have hn4 : ¬ (w.heap.size = W1.heap.size + 1) := by have := HL1.out; omega
  go_region
  go_wp2_with fail
  generalize hWf : World.drew _ = Wf
  have hx : RcB Wf w.heap.size ⟨s0, s1, s2, sa, sb, s5, s6, s7, s8, b9, s10, b11⟩ := by rw [← hWf]; exact RcB.drew (put12 s0 s1 s2 sa sb s5 s6 s7 s8 b9 s10 b11 HZ.out)
  have hbf : Below w.heap.size w Wf := by
    rw [← hWf]
    refine below_drew1 ?_
    repeat' apply Below.setCell
    all_goals first | exact HBL.out | exact Nat.le_refl _
  clear hWf
  refine bodyPost_ret (v := .tuple #[.agg (Rc.cells ⟨s0, s1, s2, sa, sb, s5, s6, s7, s8, b9, s10, b11⟩), .bool (!ff)]) ?_ rfl (readOut_of (by rw [HFF.out, HRR.out]) hbf)
  exact results_cell2 (p := 2) (u := 3) rfl _ _ w.heap.size 31 (Rc.cells ⟨s0, s1, s2, sa, sb, s5, s6, s7, s8, b9, s10, b11⟩) (0, 0) _ rfl hx Try.underlying31 rfl rfl
end Go.Proofs.Ytblhpbheejemnaa
