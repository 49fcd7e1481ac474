/- Walk: read. -/
import Derived.Test.YtokdfdinnaghmaaDoorTxW
namespace Go.Proofs.YtokdfdinnaghmaaDoor.Tx
open Go Go.Lib Go.RowKit

theorem split_sp (s : ByteArray) (w : World) (hs : s.size ≤ maxLen) : Calls Tryd.prog 28 #[.string s, .int .i32 32, .int .i64 13] w (SpOut (spl 32 s.data.toList) 13 w) :=
  split_any s 32 13 (by decide) (by decide) (by decide) w hs
theorem rd_first {w W0 w1 : World} {A : Obj} {s : RS} (h0 : w.alloc (.cells rcZ.cells 23) = W0) (hb : Below W0.heap.size W0 w1) (h : TxA (w1.alloc A) w1.heap.size s) :
    RdI w w.heap.size w1.heap.size s rcZ ((w1.alloc A).alloc (.cells rcZ.cells 23)) := by
  have hs0 : W0.heap.size = w.heap.size + 1 := by rw [← h0]; simp
  have hs1 := hb.size
  have hb0 : Below w.heap.size w W0 := by rw [← h0]; exact (Below.refl _ w).alloc (Nat.le_refl _) _
  have hbA : Below w1.heap.size w1 ((w1.alloc A).alloc (.cells rcZ.cells 23)) := ((Below.refl _ w1).alloc (Nat.le_refl _) _).alloc (by simp) _
  refine ⟨h.below ((Below.refl _ _).alloc (Nat.le_refl _) _), ?_, ?_, ?_, by omega⟩
  · have := new_at (w1.alloc A) (.cells rcZ.cells 23)
    rw [World.size_alloc] at this
    exact this
  · have h1 : RcB W0 w.heap.size rcZ := by rw [← h0]; exact new_at w _
    exact (h1.below hb (by omega)).below hbA (by omega)
  · exact (hb0.trans (hb.mono (by omega))).trans (hbA.mono (by omega))
theorem idx_kept {w W : World} {B : Nat} (hB : B = w.heap.size) (h : IdxV w) (hb : Below B w W) : IdxV W := by
  subst hB
  obtain ⟨m, h⟩ := h
  exact ⟨m, (World.cell?_of_block (w := w) (a := ⟨0, 0, none⟩) (hb.block 0 (Lib.lt_of_cell h))).trans h⟩
/-- What read gives. -/
structure Lr (n : Ln) (r : Rc) : Prop where
  k0 : r.s0 = n.so
  k1 : r.s1 = n.se
  k2 : r.s2 = n.kd
  k3 : r.sa.data.toList = n.a
  k4 : r.sb.data.toList = n.b
  k5 : r.s5 = n.st
  k6 : r.s6 = n.un
  k7 : r.s7 = n.cl
  k8 : r.s8 = n.pt
  k9 : r.b9 = n.la
  k10 : r.s10 = n.tr
  k11 : r.b11 = n.inb
  la : r.sa.size ≤ maxLen
  lb : r.sb.size ≤ maxLen
theorem Lr.head {kd so se st un : Nat} {a b : ByteArray} (ha : a.size ≤ maxLen) (hb : b.size ≤ maxLen) : Lr ⟨kd, so, se, a.data.toList, b.data.toList, st, un, 0, 0, false, 0, false⟩ ⟨so, se, kd, a, b, st, un, 0, 0, false, 0, false⟩ :=
  ⟨rfl, rfl, rfl, rfl, rfl, rfl, rfl, rfl, rfl, rfl, rfl, rfl, ha, hb⟩
theorem Lr.part {n : Ln} {r : Rc} (h : Lr n r) (c p : Nat) (b : Bool) : Lr { n with cl := c, pt := p, la := b } { r with s7 := c, s8 := p, b9 := b } :=
  ⟨h.k0, h.k1, h.k2, h.k3, h.k4, h.k5, h.k6, rfl, rfl, rfl, h.k10, h.k11, h.la, h.lb⟩
theorem Lr.way {n : Ln} {r : Rc} (h : Lr n r) (t : Nat) (b : Bool) : Lr { n with inb := b, tr := t } { r with s10 := t, b11 := b } :=
  ⟨h.k0, h.k1, h.k2, h.k3, h.k4, h.k5, h.k6, h.k7, h.k8, h.k9, rfl, rfl, h.la, h.lb⟩
theorem Lr.noway {n : Ln} {r : Rc} (h : Lr n r) (b : Bool) : Lr { n with inb := b } { r with b11 := b } :=
  ⟨h.k0, h.k1, h.k2, h.k3, h.k4, h.k5, h.k6, h.k7, h.k8, h.k9, h.k10, rfl, h.la, h.lb⟩
theorem part_no {r : Ln} {s s1 : RS} (h : rdSkip wPart s = (false, s1)) : rdPart r s = (r, s1) := by
  unfold rdPart; rw [h]; rfl
theorem part_yes {r : Ln} {s s1 s2 : RS} {c p : Nat × RS} {f : Bool} (h : rdSkip wPart s = (true, s1)) (hc : rdNum s1 = c) (hp : rdNum c.2 = p) (hl : rdSkip wLast p.2 = (f, s2)) : rdPart r s = ({ r with cl := c.1, pt := p.1, la := f }, s2) := by
  unfold rdPart; simp only [h, hc, hp, hl, if_true]
theorem way_in {r : Ln} {s s3 : RS} {n : Nat × RS} (h : rdSkip wIn s = (true, s3)) (hn : rdNum s3 = n) : rdWay r s = ({ r with inb := true, tr := n.1 }, n.2) := by
  unfold rdWay; simp only [h, hn, if_true]
theorem way_out {r : Ln} {s s3 s4 : RS} {n : Nat × RS} (h : rdSkip wIn s = (false, s3)) (k : rdSkip wOut s3 = (true, s4)) (hn : rdNum s4 = n) : rdWay r s = ({ r with inb := false, tr := n.1 }, n.2) := by
  unfold rdWay; simp only [h, k, hn, if_true]; rfl
theorem way_none {r : Ln} {s s3 s4 : RS} (h : rdSkip wIn s = (false, s3)) (k : rdSkip wOut s3 = (false, s4)) : rdWay r s = ({ r with inb := false }, s4) := by
  unfold rdWay; simp only [h, k]; rfl
def ReadOut (ws : List Wd) (w : World) (e : Ending) (w' : World) : Prop :=
  (13 < ws.length → e = .returned (.tuple #[.agg rcZ.cells, .bool false])) ∧
  (ws.length ≤ 13 → ∃ r, e = .returned (.tuple #[.agg r.cells, .bool (readW ws).isSome]) ∧ ∀ n, readW ws = some n → Lr n r) ∧ Below w.heap.size w w'
theorem below_drew1 {B : Nat} {a w : World} (h : Below B a w) : Below B a w.drew := h.trans ⟨rfl, rfl, rfl, Nat.le_refl _, fun _ _ => rfl⟩
theorem below_first {w W0 w1 : World} (h0 : w.alloc (.cells rcZ.cells 23) = W0) (hb : Below W0.heap.size W0 w1) : Below w.heap.size w w1 := by
  have hs0 : W0.heap.size = w.heap.size + 1 := by rw [← h0]; simp
  have hb0 : Below w.heap.size w W0 := by rw [← h0]; exact (Below.refl _ w).alloc (Nat.le_refl _) _
  exact hb0.trans (hb.mono (by omega))
theorem below12' {B g : Nat} {a w : World} (h : Below B a w) (hg : B ≤ g) (v0 v1 v2 v3 v4 v5 v6 v7 v8 v9 v10 v11 : Value) : Below B a ((((((((((((w.setCell ⟨g, 0, none⟩ v0).setCell ⟨g, 1, none⟩ v1).setCell ⟨g, 2, none⟩ v2).setCell ⟨g, 3, none⟩ v3).setCell ⟨g, 4, none⟩ v4).setCell ⟨g, 5, none⟩ v5).setCell ⟨g, 6, none⟩ v6).setCell ⟨g, 7, none⟩ v7).setCell ⟨g, 8, none⟩ v8).setCell ⟨g, 9, none⟩ v9).setCell ⟨g, 10, none⟩ v10).setCell ⟨g, 11, none⟩ v11) := by
  repeat' apply Below.setCell
  all_goals first | exact h | exact hg
theorem below12 {B g : Nat} {a w : World} (h : Below B a w) (hg : B ≤ g) (v0 v1 v2 v3 v4 v5 v6 v7 v8 v9 v10 v11 : Value) : Below B a ((((((((((((w.setCell ⟨g, 0, none⟩ v0).setCell ⟨g, 1, none⟩ v1).setCell ⟨g, 2, none⟩ v2).setCell ⟨g, 3, none⟩ v3).setCell ⟨g, 4, none⟩ v4).setCell ⟨g, 5, none⟩ v5).setCell ⟨g, 6, none⟩ v6).setCell ⟨g, 7, none⟩ v7).setCell ⟨g, 8, none⟩ v8).setCell ⟨g, 9, none⟩ v9).setCell ⟨g, 10, none⟩ v10).setCell ⟨g, 11, none⟩ v11).drew :=
  below_drew1 (below12' h hg _ _ _ _ _ _ _ _ _ _ _ _)
theorem _root_.Go.Proofs.YtokdfdinnaghmaaDoor.RcB.drew {w : World} {g : Nat} {r : Rc} (h : RcB w g r) : RcB w.drew g r := h
theorem put12 {w : World} {g : Nat} {r0 : Rc} (s0 : Int) (s1 : Int) (s2 : Int) (sa : ByteArray) (sb : ByteArray) (s5 : Int) (s6 : Int) (s7 : Int) (s8 : Int) (b9 : Bool) (s10 : Int) (b11 : Bool) (h : RcB w g r0) : RcB ((((((((((((w.setCell ⟨g, 0, none⟩ (.int .i64 s0)).setCell ⟨g, 1, none⟩ (.int .i64 s1)).setCell ⟨g, 2, none⟩ (.int .i64 s2)).setCell ⟨g, 3, none⟩ (.string sa)).setCell ⟨g, 4, none⟩ (.string sb)).setCell ⟨g, 5, none⟩ (.int .i64 s5)).setCell ⟨g, 6, none⟩ (.int .i64 s6)).setCell ⟨g, 7, none⟩ (.int .i64 s7)).setCell ⟨g, 8, none⟩ (.int .i64 s8)).setCell ⟨g, 9, none⟩ (.bool b9)).setCell ⟨g, 10, none⟩ (.int .i64 s10)).setCell ⟨g, 11, none⟩ (.bool b11)) g ⟨s0, s1, s2, sa, sb, s5, s6, s7, s8, b9, s10, b11⟩ := by
  unfold RcB Rc.cells at *
  simp [World.setCell, Array.getElem?_modify, h]
theorem results_cell2 {P : Program} {fn : Func} {p u : Tmp} {ty : TypeId} (h : fn.results = #[.cell p ty, .tmp u]) (tmps : Array Value) (w : World) (g : Nat) (t : TypeId) (cs : Array Value) (fr : Nat × Nat) (d : TypeDesc)
    (hp : tmps.getD p undef = .pointer (some ⟨g, 0, none⟩)) (hg : w.heap[g]? = some (.cells cs t fr))
    (hu : P.underlying ty = some d) (hd : (match d with | .struct _ | .array _ _ => true | _ => false) = true) (hi : (P.info? ty).map (·.size) = some cs.size) :
    (results fn tmps).run P w = .ok (.tuple #[.agg cs, tmps.getD u undef]) w := by
  have hp' : tmps[p]?.getD undef = .pointer (some ⟨g, 0, none⟩) := by simpa using hp
  simp [results, h, hp', asAddr, run_loadVar_row w g t ty cs fr d hg hu hd hi]
theorem end_yes {s : RS} (h : s.wrong = false) (k : s.rest.length = 0) : (decide (s.wrong = false) && decide (s.rest = [])) = true := by
  simp [h, List.length_eq_zero_iff.1 k]
theorem end_more {s : RS} {n : Nat} (k : s.rest.length = n) (h : ¬ n = 0) : (decide (s.wrong = false) && decide (s.rest = [])) = false := by
  have : s.rest ≠ [] := fun e => h (by rw [← k, e]; rfl)
  simp [this]
theorem end_wrong {s : RS} (h : s.wrong = true) : (decide (s.wrong = false) && decide (s.rest = [])) = false := by simp [h]
theorem read_end {ws : List Wd} {hd pd : Ln × RS} {nz : Ln} {sz : RS} {rz : Rc} (h1 : rdHead ws = hd) (h2 : rdPart hd.1 hd.2 = pd) (h3 : rdWay pd.1 pd.2 = (nz, sz)) (hr : Lr nz rz) (hl : ws.length ≤ 13) {b : Bool}
    (hb : (decide (sz.wrong = false) && decide (sz.rest = [])) = b) {w w' : World} (hbl : Below w.heap.size w w') : ReadOut ws w (.returned (.tuple #[.agg rz.cells, .bool b])) w' := by
  have e : readW ws = if sz.wrong = false ∧ sz.rest = [] then some nz else none := by
    unfold readW; simp only [h1, h2, h3]
  refine ⟨fun h => absurd h (by omega), fun _ => ⟨rz, ?_, ?_⟩, hbl⟩
  · subst hb
    rw [e]
    by_cases h : sz.wrong = false ∧ sz.rest = []
    · rw [if_pos h]; simp [h.1, h.2]
    · rw [if_neg h]
      have : (decide (sz.wrong = false) && decide (sz.rest = [])) = false := by
        rw [Bool.and_eq_false_iff]
        by_cases h5 : sz.wrong = false
        · exact .inr (decide_eq_false fun h6 => h ⟨h5, h6⟩)
        · exact .inl (decide_eq_false h5)
      rw [this]; rfl
  · intro n hn
    rw [e] at hn
    by_cases h : sz.wrong = false ∧ sz.rest = []
    · rw [if_pos h] at hn; cases hn; exact hr
    · rw [if_neg h] at hn; cases hn
set_option maxRecDepth 100000 in
set_option maxHeartbeats 8000000 in
theorem read_any (s : ByteArray) (w : World) (hs : s.size ≤ maxLen) (hv : IdxV w) :
    Calls Tryd.prog 24 #[.string s] w (ReadOut (spl 32 s.data.toList) w) := by
  have HS := Lib.hid hs
  have HV := Lib.hid hv
  obtain ⟨W0, hW0⟩ : ∃ W, w.alloc (.cells rcZ.cells 23) = W := ⟨_, rfl⟩
  have HW0 := Lib.hid hW0
  have hw0 : 0 < w.heap.size := by obtain ⟨m, h⟩ := hv; exact Lib.lt_of_cell h
  have hs0 : W0.heap.size = w.heap.size + 1 := by rw [← hW0]; simp
  clear hs hv
  simp only [Rc.cells, rcZ] at hW0
  by_cases hlen : (spl 32 s.data.toList).length ≤ 13
  · have HL := Lib.hid hlen
    clear hlen
    go_enter Tryd.func24, Tryd.ntmps24
    go_upto_region 10 with (first
      | (go_at_call 28; (with_reducible refine (split_sp s _ HS.out).mono ?_); rintro e w1 ⟨H1, H2, H3⟩; obtain ⟨v', l, rfl, hl, hz, ho⟩ := H1 HL.out; obtain ⟨p, c, rfl, ht⟩ := rd_new ho hz (by rw [← byt_len, hl]; exact splA_pos _ _); have HI0 := Lib.hid (rd_first HW0.out H3 ht); unfold Rc.cells rcZ at HI0; have HLL := Lib.hid hl; have hs1 := H3.size; clear H1 H2 H3 hl hz ho ht; obtain ⟨s0, hs0'⟩ : ∃ x, (⟨byt l, false⟩ : RS) = x := ⟨_, rfl⟩; rw [hs0'] at HI0; have HS0 := Lib.hid hs0'; clear hs0')
      | (go_at_call 37; (with_reducible refine (kind_any HI0.out.rd (idx_kept rfl HV.out HI0.out.bel) (by omega)).mono ?_); rintro e w2 ⟨rfl, ht⟩; obtain ⟨kd, hkd⟩ : ∃ x, rdKind s0 = x := ⟨_, rfl⟩; rw [hkd] at ht ⊢; have HI2 := Lib.hid (HI0.out.call ht); have Hkd := Lib.hid hkd; clear ht hkd; obtain ⟨y2, hy2⟩ : ∃ v, w2.cell? ⟨w1.heap.size + 1, 2, none⟩ = some v := ⟨_, HI2.out.rc.cells.2.2.1⟩; have hz2 := HI2.out.rc.fr 2)
      | (go_at_call 38; (with_reducible refine (number_any (HI2.out.stor 2 _ (HI2.out.rc.set2 _)).rd).mono ?_); rintro e w3 ⟨rfl, ht⟩; obtain ⟨so, hso⟩ : ∃ x, rdNum kd.2 = x := ⟨_, rfl⟩; rw [hso] at ht ⊢; have HI3 := Lib.hid ((HI2.out.stor 2 _ (HI2.out.rc.set2 _)).call ht); have Hso := Lib.hid hso; clear ht hso)
      | (go_at_call 38; (with_reducible refine (number_any HI3.out.rd).mono ?_); rintro e w4 ⟨rfl, ht⟩; obtain ⟨se, hse⟩ : ∃ x, rdNum so.2 = x := ⟨_, rfl⟩; rw [hse] at ht ⊢; have HI4 := Lib.hid (HI3.out.call ht); have Hse := Lib.hid hse; clear ht hse; obtain ⟨y0, hy0⟩ : ∃ v, w4.cell? ⟨w1.heap.size + 1, 0, none⟩ = some v := ⟨_, HI4.out.rc.cells.1⟩; have hz0 := HI4.out.rc.fr 0; obtain ⟨y1, hy1⟩ : ∃ v, w4.cell? ⟨w1.heap.size + 1, 1, none⟩ = some v := ⟨_, HI4.out.rc.cells.2.1⟩; have hz1 := HI4.out.rc.fr 1)
      | (go_at_call 39; (with_reducible refine (word_any ((HI4.out.stor 0 _ (HI4.out.rc.set0 _)).stor 1 _ ((HI4.out.stor 0 _ (HI4.out.rc.set0 _)).rc.set1 _)).rd).mono ?_); rintro e w5 ⟨xa, rfl, hxa, hsxa, ht⟩; obtain ⟨wa, hwa⟩ : ∃ x, rdWord se.2 = x := ⟨_, rfl⟩; rw [hwa] at ht hxa; have HI5 := Lib.hid (((HI4.out.stor 0 _ (HI4.out.rc.set0 _)).stor 1 _ ((HI4.out.stor 0 _ (HI4.out.rc.set0 _)).rc.set1 _)).call ht); have Hwa := Lib.hid hwa; have HXxa := Lib.hid hxa; have HZxa := Lib.hid hsxa; clear ht hwa hxa hsxa)
      | (go_at_call 39; (with_reducible refine (word_any HI5.out.rd).mono ?_); rintro e w6 ⟨xb, rfl, hxb, hsxb, ht⟩; obtain ⟨wb, hwb⟩ : ∃ x, rdWord wa.2 = x := ⟨_, rfl⟩; rw [hwb] at ht hxb; have HI6 := Lib.hid (HI5.out.call ht); have Hwb := Lib.hid hwb; have HXxb := Lib.hid hxb; have HZxb := Lib.hid hsxb; clear ht hwb hxb hsxb; obtain ⟨y3, hy3⟩ : ∃ v, w6.cell? ⟨w1.heap.size + 1, 3, none⟩ = some v := ⟨_, HI6.out.rc.cells.2.2.2.1⟩; have hz3 := HI6.out.rc.fr 3; obtain ⟨y4, hy4⟩ : ∃ v, w6.cell? ⟨w1.heap.size + 1, 4, none⟩ = some v := ⟨_, HI6.out.rc.cells.2.2.2.2.1⟩; have hz4 := HI6.out.rc.fr 4)
      | (go_at_call 38; (with_reducible refine (number_any ((HI6.out.stor 3 _ (HI6.out.rc.set3 _)).stor 4 _ ((HI6.out.stor 3 _ (HI6.out.rc.set3 _)).rc.set4 _)).rd).mono ?_); rintro e w7 ⟨rfl, ht⟩; obtain ⟨st, hst⟩ : ∃ x, rdNum wb.2 = x := ⟨_, rfl⟩; rw [hst] at ht ⊢; have HI7 := Lib.hid (((HI6.out.stor 3 _ (HI6.out.rc.set3 _)).stor 4 _ ((HI6.out.stor 3 _ (HI6.out.rc.set3 _)).rc.set4 _)).call ht); have Hst := Lib.hid hst; clear ht hst)
      | (go_at_call 38; (with_reducible refine (number_any HI7.out.rd).mono ?_); rintro e w8 ⟨rfl, ht⟩; obtain ⟨un, hun⟩ : ∃ x, rdNum st.2 = x := ⟨_, rfl⟩; rw [hun] at ht ⊢; have HI8 := Lib.hid (HI7.out.call ht); have Hun := Lib.hid hun; clear ht hun; obtain ⟨y5, hy5⟩ : ∃ v, w8.cell? ⟨w1.heap.size + 1, 5, none⟩ = some v := ⟨_, HI8.out.rc.cells.2.2.2.2.2.1⟩; have hz5 := HI8.out.rc.fr 5; obtain ⟨y6, hy6⟩ : ∃ v, w8.cell? ⟨w1.heap.size + 1, 6, none⟩ = some v := ⟨_, HI8.out.rc.cells.2.2.2.2.2.2.1⟩; have hz6 := HI8.out.rc.fr 6))
    have hi9 := (HI8.out.stor 5 (.int .i64 (st.1 : Nat)) (HI8.out.rc.set5 _)).stor 6 (.int .i64 (un.1 : Nat)) ((HI8.out.stor 5 (.int .i64 (st.1 : Nat)) (HI8.out.rc.set5 _)).rc.set6 _)
    obtain ⟨hd, hhd⟩ : ∃ x, rdHead (spl 32 s.data.toList) = x := ⟨_, rfl⟩
    have hhe : hd = (⟨kd.1, so.1, se.1, wa.1, nob wb.1, st.1, un.1, 0, 0, false, 0, false⟩, un.2) := by
      rw [← hhd, ← HLL.out]
      simp only [rdHead, HS0.out, Hkd.out, Hso.out, Hse.out, Hwa.out, Hwb.out, Hst.out, Hun.out]
    obtain ⟨W9, hW9⟩ : ∃ W, (w8.setCell ⟨w1.heap.size + 1, 5, none⟩ (.int .i64 (st.1 : Nat))).setCell ⟨w1.heap.size + 1, 6, none⟩ (.int .i64 (un.1 : Nat)) = W := ⟨_, rfl⟩
    rw [hW9] at hi9 ⊢
    have HI9 := Lib.hid hi9
    have HHD := Lib.hid hhd; have HHE := Lib.hid hhe
    have hc4 := hi9.rc.cells.2.2.2.2.1
    have hf4 := hi9.rc.fr 4
    clear hW9 hi9 hhd hhe y0 hy0 hz0 y1 hy1 hz1 y2 hy2 hz2 y3 hy3 hz3 y4 hy4 hz4 y5 hy5 hz5 y6 hy6 hz6
    go_upto_if 34 with fail
    go_cut [] from 32 (fun wx => ∃ r, RdI w w.heap.size w1.heap.size hd.2 r wx ∧ Lr hd.1 r)
    case first =>
      go_wp2_with fail
      · rename_i hx
        have hx := eq_of_beq hx
        rw [ByteArray.toList_eq] at hx
        go_meet
        have h := HI9.out.stor 4 (.string ⟨#[]⟩) (HI9.out.rc.set4 _)
        refine ⟨⟨so.1, se.1, kd.1, xa, ⟨#[]⟩, st.1, un.1, 0, 0, false, 0, false⟩, by rw [HHE.out]; exact h, ?_⟩
        rw [HHE.out]
        rw [show nob wb.1 = (⟨#[]⟩ : ByteArray).data.toList by rw [← HXxb.out, hx]; rfl, ← HXxa.out]
        exact Lr.head (b := ⟨#[]⟩) HZxa.out (by decide)
      · rename_i hx
        have hx := ne_of_beq_false hx
        rw [ByteArray.toList_eq] at hx
        go_meet
        refine ⟨_, by rw [HHE.out]; exact HI9.out, ?_⟩
        rw [HHE.out]
        rw [show nob wb.1 = xb.data.toList by rw [← HXxb.out]; exact if_neg hx, ← HXxa.out]
        exact Lr.head HZxa.out HZxb.out
    case rest =>
      obtain ⟨r1, hi1, hl1⟩ := hcut
      rename_i W10
      have HI10 := Lib.hid hi1; have HR1 := Lib.hid hl1
      clear hi1 hl1 hc4 hf4 HI0 HI2 HI3 HI4 HI5 HI6 HI7 HI8 HI9 HHE HXxa HXxb HZxa HZxb Hkd Hso Hse Hwa Hwb Hst Hun
      obtain ⟨⟨f1, s1⟩, hk1⟩ : ∃ x, rdSkip wPart hd.2 = x := ⟨_, rfl⟩
      have HK1 : Hid (rdSkip (⟨#[112, 97, 114, 116]⟩ : ByteArray).data.toList hd.2 = (f1, s1)) := Lib.hid hk1
      have HP1 := Lib.hid hk1
      clear hk1
      obtain ⟨pd, hpd⟩ : ∃ x, rdPart hd.1 hd.2 = x := ⟨_, rfl⟩
      have HPD := Lib.hid hpd
      clear hpd
      go_upto_if 36 with (go_at_call 40; (with_reducible refine (skip_any ⟨#[112, 97, 114, 116]⟩ HI10.out.rd).mono ?_); rintro e w11 ⟨rfl, ht⟩; have HE11 := HK1.out; rw [HE11] at ht ⊢; have HI11 := Lib.hid (HI10.out.call ht); clear ht HE11)
      go_cut [] from 37 (fun wx => ∃ r, RdI w w.heap.size w1.heap.size pd.2 r wx ∧ Lr pd.1 r)
      case first =>
        cases f1
        · go_wp2_with fail
          go_meet
          have h := part_no (r := hd.1) HP1.out
          rw [HPD.out] at h
          rw [h]
          exact ⟨r1, HI11.out, HR1.out⟩
        · go_wp2_with (first
            | (go_at_call 38; (with_reducible refine (number_any HI11.out.rd).mono ?_); rintro e w12 ⟨rfl, ht⟩; obtain ⟨cl, hcl⟩ : ∃ x, rdNum s1 = x := ⟨_, rfl⟩; rw [hcl] at ht ⊢; have HI12 := Lib.hid (HI11.out.call ht); have Hcl := Lib.hid hcl; clear ht hcl)
            | (go_at_call 38; (with_reducible refine (number_any HI12.out.rd).mono ?_); rintro e w13 ⟨rfl, ht⟩; obtain ⟨pt, hpt⟩ : ∃ x, rdNum cl.2 = x := ⟨_, rfl⟩; rw [hpt] at ht ⊢; have HI13 := Lib.hid (HI12.out.call ht); have Hpt := Lib.hid hpt; clear ht hpt; obtain ⟨y7, hy7⟩ : ∃ v, w13.cell? ⟨w1.heap.size + 1, 7, none⟩ = some v := ⟨_, HI13.out.rc.cells.2.2.2.2.2.2.2.1⟩; have hz7 := HI13.out.rc.fr 7; obtain ⟨y8, hy8⟩ : ∃ v, w13.cell? ⟨w1.heap.size + 1, 8, none⟩ = some v := ⟨_, HI13.out.rc.cells.2.2.2.2.2.2.2.2.1⟩; have hz8 := HI13.out.rc.fr 8)
            | (go_at_call 40; (with_reducible refine (skip_any ⟨#[108, 97, 115, 116]⟩ ((HI13.out.stor 7 _ (HI13.out.rc.set7 _)).stor 8 _ ((HI13.out.stor 7 _ (HI13.out.rc.set7 _)).rc.set8 _)).rd).mono ?_); rintro e w14 ⟨rfl, ht⟩; obtain ⟨⟨f2, s2⟩, hk14⟩ : ∃ x, rdSkip wLast pt.2 = x := ⟨_, rfl⟩; have hk14' : rdSkip (⟨#[108, 97, 115, 116]⟩ : ByteArray).data.toList pt.2 = (f2, s2) := hk14; rw [hk14'] at ht ⊢; have HI14 := Lib.hid (((HI13.out.stor 7 _ (HI13.out.rc.set7 _)).stor 8 _ ((HI13.out.stor 7 _ (HI13.out.rc.set7 _)).rc.set8 _)).call ht); have HK14 := Lib.hid hk14; clear ht hk14 hk14'; obtain ⟨y9, hy9⟩ : ∃ v, w14.cell? ⟨w1.heap.size + 1, 9, none⟩ = some v := ⟨_, HI14.out.rc.cells.2.2.2.2.2.2.2.2.2.1⟩; have hz9 := HI14.out.rc.fr 9))
          go_meet
          have h := part_yes (r := hd.1) HP1.out Hcl.out Hpt.out HK14.out
          rw [HPD.out] at h
          rw [h]
          exact ⟨_, HI14.out.stor 9 (.bool f2) (HI14.out.rc.set9 f2), HR1.out.part cl.1 pt.1 f2⟩
      case rest =>
        obtain ⟨r2, hi2, hl2⟩ := hcut
        have HI20 := Lib.hid hi2; have HR2 := Lib.hid hl2
        clear hi2 hl2 HI10 HR1 HI11 HK1 HP1
        obtain ⟨⟨f3, s3⟩, hk3⟩ : ∃ x, rdSkip wIn pd.2 = x := ⟨_, rfl⟩
        have HK3 : Hid (rdSkip (⟨#[105, 110]⟩ : ByteArray).data.toList pd.2 = (f3, s3)) := Lib.hid hk3
        have HP3 := Lib.hid hk3
        clear hk3
        obtain ⟨⟨f4, s4⟩, hk4⟩ : ∃ x, rdSkip wOut s3 = x := ⟨_, rfl⟩
        have HK4 : Hid (rdSkip (⟨#[111, 117, 116]⟩ : ByteArray).data.toList s3 = (f4, s4)) := Lib.hid hk4
        have HP4 := Lib.hid hk4
        clear hk4
        cases f3
        · cases f4
          · go_upto_region 18 with (first
              | (go_at_call 40; (with_reducible refine (skip_any ⟨#[105, 110]⟩ HI20.out.rd).mono ?_); rintro e w21 ⟨rfl, ht⟩; have HE21 := HK3.out; rw [HE21] at ht ⊢; have HI21 := Lib.hid (HI20.out.call ht); clear ht HE21; obtain ⟨y11, hy11⟩ : ∃ v, w21.cell? ⟨w1.heap.size + 1, 11, none⟩ = some v := ⟨_, HI21.out.rc.cells.2.2.2.2.2.2.2.2.2.2.2⟩; have hz11 := HI21.out.rc.fr 11)
              | (go_at_call 40; (with_reducible refine (skip_any ⟨#[111, 117, 116]⟩ (HI21.out.stor 11 _ (HI21.out.rc.set11 _)).rd).mono ?_); rintro e w22 ⟨rfl, ht⟩; have HE22 := HK4.out; rw [HE22] at ht ⊢; have HI22 := Lib.hid ((HI21.out.stor 11 _ (HI21.out.rc.set11 _)).call ht); clear ht HE22))
            have hiz := HI22.out
            have HZW := Lib.hid (way_none (r := pd.1) HP3.out HP4.out)
            have HRZ := Lib.hid (HR2.out.noway false)
            obtain ⟨rz, hrz⟩ : ∃ x, ({ r2 with b11 := false } : Rc) = x := ⟨_, rfl⟩
            rw [hrz] at hiz
            have HRZ' := HRZ.out
            rw [hrz] at HRZ'
            have HRR := Lib.hid HRZ'
            clear HRZ HRZ' hrz
            have HIZ := Lib.hid hiz
            clear hiz HI20 HI21 HI22 HP3 HP4 HK3 HK4
            obtain ⟨sz, hsz⟩ : ∃ x : RS, s4 = x := ⟨_, rfl⟩
            have HIY := HIZ.out
            have HZY := HZW.out
            rw [hsz] at HIY HZY
            have HIZ := Lib.hid HIY
            have HZW := Lib.hid HZY
            clear HIY HZY hsz
            obtain ⟨p9, n9, c9, l9, hts, hl9⟩ := HIZ.out.rd
            obtain ⟨t0, t1, t2, t3⟩ := hts.cells
            have hn9 : sz.rest.length = n9 := by rw [hl9, ← hts.len]; simp [byL]
            obtain ⟨c0, c1, c2, c3, c4, c5, c6, c7, c8, c9', c10, c11⟩ := HIZ.out.rc.cells
            obtain ⟨z0, z1, z2, z3, z4, z5, z6, z7, z8, z9, z10, z11⟩ := HIZ.out.rz.cells
            have zf := HIZ.out.rz.fr
            obtain ⟨q0, q1, q2, qa, qb, q5, q6, q7, q8, q9, q10, q11⟩ := rz
            simp only at c0 c1 c2 c3 c4 c5 c6 c7 c8 c9' c10 c11
            have hn1 : ¬ (w1.heap.size = w.heap.size) := by have := HIZ.out.lt; omega
            have hn2 : ¬ (w.heap.size = w1.heap.size) := by have := HIZ.out.lt; omega
            have hn3 : ¬ (w1.heap.size + 1 = w.heap.size) := by have := HIZ.out.lt; omega
            have hn4 : ¬ (w.heap.size = w1.heap.size + 1) := by have := HIZ.out.lt; omega
            have HNZ := Lib.hid hn9
            clear hts hl9 hn9 hs0 hs1 hw0
            cases hw : sz.wrong
            · have HWZ := Lib.hid hw
              rw [hw] at t1
              clear hw
              by_cases h0 : n9 = 0
              · subst h0
                go_region
                go_wp2_with fail
                generalize hWf : World.drew _ = Wf
                have hx : RcB Wf w.heap.size ⟨q0, q1, q2, qa, qb, q5, q6, q7, q8, q9, q10, q11⟩ := by rw [← hWf]; exact RcB.drew (put12 q0 q1 q2 qa qb q5 q6 q7 q8 q9 q10 q11 HIZ.out.rz)
                have hbf : Below w.heap.size w Wf := by rw [← hWf]; exact below12 HIZ.out.bel (Nat.le_refl _) _ _ _ _ _ _ _ _ _ _ _ _
                clear hWf
                refine bodyPost_ret (v := .tuple #[.agg (Rc.cells ⟨q0, q1, q2, qa, qb, q5, q6, q7, q8, q9, q10, q11⟩), .bool true]) ?_ rfl (read_end HHD.out HPD.out HZW.out HRR.out HL.out (end_yes HWZ.out HNZ.out) hbf)
                exact results_cell2 (p := 2) (u := 3) rfl _ _ w.heap.size 23 (Rc.cells ⟨q0, q1, q2, qa, qb, q5, q6, q7, q8, q9, q10, q11⟩) (0, 0) _ rfl hx Tryd.underlying23 rfl rfl
              · have hk0 : ((n9 : Int) == 0) = false := by rw [beq_eq_false_iff_ne]; omega
                have HN0 := Lib.hid h0
                clear h0
                go_region
                go_wp2_with fail
                generalize hWf : World.drew _ = Wf
                have hx : RcB Wf w.heap.size ⟨q0, q1, q2, qa, qb, q5, q6, q7, q8, q9, q10, q11⟩ := by rw [← hWf]; exact RcB.drew (put12 q0 q1 q2 qa qb q5 q6 q7 q8 q9 q10 q11 HIZ.out.rz)
                have hbf : Below w.heap.size w Wf := by rw [← hWf]; exact below12 HIZ.out.bel (Nat.le_refl _) _ _ _ _ _ _ _ _ _ _ _ _
                clear hWf
                refine bodyPost_ret (v := .tuple #[.agg (Rc.cells ⟨q0, q1, q2, qa, qb, q5, q6, q7, q8, q9, q10, q11⟩), .bool false]) ?_ rfl (read_end HHD.out HPD.out HZW.out HRR.out HL.out (end_more HNZ.out HN0.out) hbf)
                exact results_cell2 (p := 2) (u := 3) rfl _ _ w.heap.size 23 (Rc.cells ⟨q0, q1, q2, qa, qb, q5, q6, q7, q8, q9, q10, q11⟩) (0, 0) _ rfl hx Tryd.underlying23 rfl rfl
            · have HWZ := Lib.hid hw
              rw [hw] at t1
              clear hw
              go_region
              go_wp2_with fail
              generalize hWf : World.drew _ = Wf
              have hx : RcB Wf w.heap.size ⟨q0, q1, q2, qa, qb, q5, q6, q7, q8, q9, q10, q11⟩ := by rw [← hWf]; exact RcB.drew (put12 q0 q1 q2 qa qb q5 q6 q7 q8 q9 q10 q11 HIZ.out.rz)
              have hbf : Below w.heap.size w Wf := by rw [← hWf]; exact below12 HIZ.out.bel (Nat.le_refl _) _ _ _ _ _ _ _ _ _ _ _ _
              clear hWf
              refine bodyPost_ret (v := .tuple #[.agg (Rc.cells ⟨q0, q1, q2, qa, qb, q5, q6, q7, q8, q9, q10, q11⟩), .bool false]) ?_ rfl (read_end HHD.out HPD.out HZW.out HRR.out HL.out (end_wrong HWZ.out) hbf)
              exact results_cell2 (p := 2) (u := 3) rfl _ _ w.heap.size 23 (Rc.cells ⟨q0, q1, q2, qa, qb, q5, q6, q7, q8, q9, q10, q11⟩) (0, 0) _ rfl hx Tryd.underlying23 rfl rfl
          · go_upto_region 18 with (first
              | (go_at_call 40; (with_reducible refine (skip_any ⟨#[105, 110]⟩ HI20.out.rd).mono ?_); rintro e w21 ⟨rfl, ht⟩; have HE21 := HK3.out; rw [HE21] at ht ⊢; have HI21 := Lib.hid (HI20.out.call ht); clear ht HE21; obtain ⟨y11, hy11⟩ : ∃ v, w21.cell? ⟨w1.heap.size + 1, 11, none⟩ = some v := ⟨_, HI21.out.rc.cells.2.2.2.2.2.2.2.2.2.2.2⟩; have hz11 := HI21.out.rc.fr 11)
              | (go_at_call 40; (with_reducible refine (skip_any ⟨#[111, 117, 116]⟩ (HI21.out.stor 11 _ (HI21.out.rc.set11 _)).rd).mono ?_); rintro e w22 ⟨rfl, ht⟩; have HE22 := HK4.out; rw [HE22] at ht ⊢; have HI22 := Lib.hid ((HI21.out.stor 11 _ (HI21.out.rc.set11 _)).call ht); clear ht HE22)
              | (go_at_call 38; (with_reducible refine (number_any HI22.out.rd).mono ?_); rintro e w23 ⟨rfl, ht⟩; obtain ⟨tn, htn⟩ : ∃ x, rdNum s4 = x := ⟨_, rfl⟩; rw [htn] at ht ⊢; have HI23 := Lib.hid (HI22.out.call ht); have Htn := Lib.hid htn; clear ht htn; obtain ⟨y10, hy10⟩ : ∃ v, w23.cell? ⟨w1.heap.size + 1, 10, none⟩ = some v := ⟨_, HI23.out.rc.cells.2.2.2.2.2.2.2.2.2.2.1⟩; have hz10 := HI23.out.rc.fr 10))
            obtain ⟨Wz, hWz⟩ : ∃ W, w23.setCell ⟨w1.heap.size + 1, 10, none⟩ (.int .i64 (tn.1 : Nat)) = W := ⟨_, rfl⟩
            have hiz := HI23.out.stor 10 (.int .i64 (tn.1 : Nat)) (HI23.out.rc.set10 _)
            rw [hWz] at hiz ⊢
            clear hWz
            have HZW := Lib.hid (way_out (r := pd.1) HP3.out HP4.out Htn.out)
            have HRZ := Lib.hid (HR2.out.way tn.1 false)
            obtain ⟨rz, hrz⟩ : ∃ x, ({ r2 with s10 := (tn.1 : Nat), b11 := false } : Rc) = x := ⟨_, rfl⟩
            rw [hrz] at hiz
            have HRZ' := HRZ.out
            rw [hrz] at HRZ'
            have HRR := Lib.hid HRZ'
            clear HRZ HRZ' hrz
            have HIZ := Lib.hid hiz
            clear hiz HI20 HI21 HI22 HI23 HP3 HP4 HK3 HK4
            obtain ⟨sz, hsz⟩ : ∃ x : RS, tn.2 = x := ⟨_, rfl⟩
            have HIY := HIZ.out
            have HZY := HZW.out
            rw [hsz] at HIY HZY
            have HIZ := Lib.hid HIY
            have HZW := Lib.hid HZY
            clear HIY HZY hsz
            obtain ⟨p9, n9, c9, l9, hts, hl9⟩ := HIZ.out.rd
            obtain ⟨t0, t1, t2, t3⟩ := hts.cells
            have hn9 : sz.rest.length = n9 := by rw [hl9, ← hts.len]; simp [byL]
            obtain ⟨c0, c1, c2, c3, c4, c5, c6, c7, c8, c9', c10, c11⟩ := HIZ.out.rc.cells
            obtain ⟨z0, z1, z2, z3, z4, z5, z6, z7, z8, z9, z10, z11⟩ := HIZ.out.rz.cells
            have zf := HIZ.out.rz.fr
            obtain ⟨q0, q1, q2, qa, qb, q5, q6, q7, q8, q9, q10, q11⟩ := rz
            simp only at c0 c1 c2 c3 c4 c5 c6 c7 c8 c9' c10 c11
            have hn1 : ¬ (w1.heap.size = w.heap.size) := by have := HIZ.out.lt; omega
            have hn2 : ¬ (w.heap.size = w1.heap.size) := by have := HIZ.out.lt; omega
            have hn3 : ¬ (w1.heap.size + 1 = w.heap.size) := by have := HIZ.out.lt; omega
            have hn4 : ¬ (w.heap.size = w1.heap.size + 1) := by have := HIZ.out.lt; omega
            have HNZ := Lib.hid hn9
            clear hts hl9 hn9 hs0 hs1 hw0
            cases hw : sz.wrong
            · have HWZ := Lib.hid hw
              rw [hw] at t1
              clear hw
              by_cases h0 : n9 = 0
              · subst h0
                go_region
                go_wp2_with fail
                generalize hWf : World.drew _ = Wf
                have hx : RcB Wf w.heap.size ⟨q0, q1, q2, qa, qb, q5, q6, q7, q8, q9, q10, q11⟩ := by rw [← hWf]; exact RcB.drew (put12 q0 q1 q2 qa qb q5 q6 q7 q8 q9 q10 q11 HIZ.out.rz)
                have hbf : Below w.heap.size w Wf := by rw [← hWf]; exact below12 HIZ.out.bel (Nat.le_refl _) _ _ _ _ _ _ _ _ _ _ _ _
                clear hWf
                refine bodyPost_ret (v := .tuple #[.agg (Rc.cells ⟨q0, q1, q2, qa, qb, q5, q6, q7, q8, q9, q10, q11⟩), .bool true]) ?_ rfl (read_end HHD.out HPD.out HZW.out HRR.out HL.out (end_yes HWZ.out HNZ.out) hbf)
                exact results_cell2 (p := 2) (u := 3) rfl _ _ w.heap.size 23 (Rc.cells ⟨q0, q1, q2, qa, qb, q5, q6, q7, q8, q9, q10, q11⟩) (0, 0) _ rfl hx Tryd.underlying23 rfl rfl
              · have hk0 : ((n9 : Int) == 0) = false := by rw [beq_eq_false_iff_ne]; omega
                have HN0 := Lib.hid h0
                clear h0
                go_region
                go_wp2_with fail
                generalize hWf : World.drew _ = Wf
                have hx : RcB Wf w.heap.size ⟨q0, q1, q2, qa, qb, q5, q6, q7, q8, q9, q10, q11⟩ := by rw [← hWf]; exact RcB.drew (put12 q0 q1 q2 qa qb q5 q6 q7 q8 q9 q10 q11 HIZ.out.rz)
                have hbf : Below w.heap.size w Wf := by rw [← hWf]; exact below12 HIZ.out.bel (Nat.le_refl _) _ _ _ _ _ _ _ _ _ _ _ _
                clear hWf
                refine bodyPost_ret (v := .tuple #[.agg (Rc.cells ⟨q0, q1, q2, qa, qb, q5, q6, q7, q8, q9, q10, q11⟩), .bool false]) ?_ rfl (read_end HHD.out HPD.out HZW.out HRR.out HL.out (end_more HNZ.out HN0.out) hbf)
                exact results_cell2 (p := 2) (u := 3) rfl _ _ w.heap.size 23 (Rc.cells ⟨q0, q1, q2, qa, qb, q5, q6, q7, q8, q9, q10, q11⟩) (0, 0) _ rfl hx Tryd.underlying23 rfl rfl
            · have HWZ := Lib.hid hw
              rw [hw] at t1
              clear hw
              go_region
              go_wp2_with fail
              generalize hWf : World.drew _ = Wf
              have hx : RcB Wf w.heap.size ⟨q0, q1, q2, qa, qb, q5, q6, q7, q8, q9, q10, q11⟩ := by rw [← hWf]; exact RcB.drew (put12 q0 q1 q2 qa qb q5 q6 q7 q8 q9 q10 q11 HIZ.out.rz)
              have hbf : Below w.heap.size w Wf := by rw [← hWf]; exact below12 HIZ.out.bel (Nat.le_refl _) _ _ _ _ _ _ _ _ _ _ _ _
              clear hWf
              refine bodyPost_ret (v := .tuple #[.agg (Rc.cells ⟨q0, q1, q2, qa, qb, q5, q6, q7, q8, q9, q10, q11⟩), .bool false]) ?_ rfl (read_end HHD.out HPD.out HZW.out HRR.out HL.out (end_wrong HWZ.out) hbf)
              exact results_cell2 (p := 2) (u := 3) rfl _ _ w.heap.size 23 (Rc.cells ⟨q0, q1, q2, qa, qb, q5, q6, q7, q8, q9, q10, q11⟩) (0, 0) _ rfl hx Tryd.underlying23 rfl rfl
        · go_upto_region 18 with (first
            | (go_at_call 40; (with_reducible refine (skip_any ⟨#[105, 110]⟩ HI20.out.rd).mono ?_); rintro e w21 ⟨rfl, ht⟩; have HE21 := HK3.out; rw [HE21] at ht ⊢; have HI21 := Lib.hid (HI20.out.call ht); clear ht HE21; obtain ⟨y11, hy11⟩ : ∃ v, w21.cell? ⟨w1.heap.size + 1, 11, none⟩ = some v := ⟨_, HI21.out.rc.cells.2.2.2.2.2.2.2.2.2.2.2⟩; have hz11 := HI21.out.rc.fr 11)
            | (go_at_call 38; (with_reducible refine (number_any (HI21.out.stor 11 _ (HI21.out.rc.set11 _)).rd).mono ?_); rintro e w23 ⟨rfl, ht⟩; obtain ⟨tn, htn⟩ : ∃ x, rdNum s3 = x := ⟨_, rfl⟩; rw [htn] at ht ⊢; have HI23 := Lib.hid ((HI21.out.stor 11 _ (HI21.out.rc.set11 _)).call ht); have Htn := Lib.hid htn; clear ht htn; obtain ⟨y10, hy10⟩ : ∃ v, w23.cell? ⟨w1.heap.size + 1, 10, none⟩ = some v := ⟨_, HI23.out.rc.cells.2.2.2.2.2.2.2.2.2.2.1⟩; have hz10 := HI23.out.rc.fr 10))
          obtain ⟨Wz, hWz⟩ : ∃ W, w23.setCell ⟨w1.heap.size + 1, 10, none⟩ (.int .i64 (tn.1 : Nat)) = W := ⟨_, rfl⟩
          have hiz := HI23.out.stor 10 (.int .i64 (tn.1 : Nat)) (HI23.out.rc.set10 _)
          rw [hWz] at hiz ⊢
          clear hWz
          have HZW := Lib.hid (way_in (r := pd.1) HP3.out Htn.out)
          have HRZ := Lib.hid (HR2.out.way tn.1 true)
          obtain ⟨rz, hrz⟩ : ∃ x, ({ r2 with s10 := (tn.1 : Nat), b11 := true } : Rc) = x := ⟨_, rfl⟩
          rw [hrz] at hiz
          have HRZ' := HRZ.out
          rw [hrz] at HRZ'
          have HRR := Lib.hid HRZ'
          clear HRZ HRZ' hrz
          have HIZ := Lib.hid hiz
          clear hiz HI20 HI21 HI23 HP3 HP4 HK3 HK4
          obtain ⟨sz, hsz⟩ : ∃ x : RS, tn.2 = x := ⟨_, rfl⟩
          have HIY := HIZ.out
          have HZY := HZW.out
          rw [hsz] at HIY HZY
          have HIZ := Lib.hid HIY
          have HZW := Lib.hid HZY
          clear HIY HZY hsz
          obtain ⟨p9, n9, c9, l9, hts, hl9⟩ := HIZ.out.rd
          obtain ⟨t0, t1, t2, t3⟩ := hts.cells
          have hn9 : sz.rest.length = n9 := by rw [hl9, ← hts.len]; simp [byL]
          obtain ⟨c0, c1, c2, c3, c4, c5, c6, c7, c8, c9', c10, c11⟩ := HIZ.out.rc.cells
          obtain ⟨z0, z1, z2, z3, z4, z5, z6, z7, z8, z9, z10, z11⟩ := HIZ.out.rz.cells
          have zf := HIZ.out.rz.fr
          obtain ⟨q0, q1, q2, qa, qb, q5, q6, q7, q8, q9, q10, q11⟩ := rz
          simp only at c0 c1 c2 c3 c4 c5 c6 c7 c8 c9' c10 c11
          have hn1 : ¬ (w1.heap.size = w.heap.size) := by have := HIZ.out.lt; omega
          have hn2 : ¬ (w.heap.size = w1.heap.size) := by have := HIZ.out.lt; omega
          have hn3 : ¬ (w1.heap.size + 1 = w.heap.size) := by have := HIZ.out.lt; omega
          have hn4 : ¬ (w.heap.size = w1.heap.size + 1) := by have := HIZ.out.lt; omega
          have HNZ := Lib.hid hn9
          clear hts hl9 hn9 hs0 hs1 hw0
          cases hw : sz.wrong
          · have HWZ := Lib.hid hw
            rw [hw] at t1
            clear hw
            by_cases h0 : n9 = 0
            · subst h0
              go_region
              go_wp2_with fail
              generalize hWf : World.drew _ = Wf
              have hx : RcB Wf w.heap.size ⟨q0, q1, q2, qa, qb, q5, q6, q7, q8, q9, q10, q11⟩ := by rw [← hWf]; exact RcB.drew (put12 q0 q1 q2 qa qb q5 q6 q7 q8 q9 q10 q11 HIZ.out.rz)
              have hbf : Below w.heap.size w Wf := by rw [← hWf]; exact below12 HIZ.out.bel (Nat.le_refl _) _ _ _ _ _ _ _ _ _ _ _ _
              clear hWf
              refine bodyPost_ret (v := .tuple #[.agg (Rc.cells ⟨q0, q1, q2, qa, qb, q5, q6, q7, q8, q9, q10, q11⟩), .bool true]) ?_ rfl (read_end HHD.out HPD.out HZW.out HRR.out HL.out (end_yes HWZ.out HNZ.out) hbf)
              exact results_cell2 (p := 2) (u := 3) rfl _ _ w.heap.size 23 (Rc.cells ⟨q0, q1, q2, qa, qb, q5, q6, q7, q8, q9, q10, q11⟩) (0, 0) _ rfl hx Tryd.underlying23 rfl rfl
            · have hk0 : ((n9 : Int) == 0) = false := by rw [beq_eq_false_iff_ne]; omega
              have HN0 := Lib.hid h0
              clear h0
              go_region
              go_wp2_with fail
              generalize hWf : World.drew _ = Wf
              have hx : RcB Wf w.heap.size ⟨q0, q1, q2, qa, qb, q5, q6, q7, q8, q9, q10, q11⟩ := by rw [← hWf]; exact RcB.drew (put12 q0 q1 q2 qa qb q5 q6 q7 q8 q9 q10 q11 HIZ.out.rz)
              have hbf : Below w.heap.size w Wf := by rw [← hWf]; exact below12 HIZ.out.bel (Nat.le_refl _) _ _ _ _ _ _ _ _ _ _ _ _
              clear hWf
              refine bodyPost_ret (v := .tuple #[.agg (Rc.cells ⟨q0, q1, q2, qa, qb, q5, q6, q7, q8, q9, q10, q11⟩), .bool false]) ?_ rfl (read_end HHD.out HPD.out HZW.out HRR.out HL.out (end_more HNZ.out HN0.out) hbf)
              exact results_cell2 (p := 2) (u := 3) rfl _ _ w.heap.size 23 (Rc.cells ⟨q0, q1, q2, qa, qb, q5, q6, q7, q8, q9, q10, q11⟩) (0, 0) _ rfl hx Tryd.underlying23 rfl rfl
          · have HWZ := Lib.hid hw
            rw [hw] at t1
            clear hw
            go_region
            go_wp2_with fail
            generalize hWf : World.drew _ = Wf
            have hx : RcB Wf w.heap.size ⟨q0, q1, q2, qa, qb, q5, q6, q7, q8, q9, q10, q11⟩ := by rw [← hWf]; exact RcB.drew (put12 q0 q1 q2 qa qb q5 q6 q7 q8 q9 q10 q11 HIZ.out.rz)
            have hbf : Below w.heap.size w Wf := by rw [← hWf]; exact below12 HIZ.out.bel (Nat.le_refl _) _ _ _ _ _ _ _ _ _ _ _ _
            clear hWf
            refine bodyPost_ret (v := .tuple #[.agg (Rc.cells ⟨q0, q1, q2, qa, qb, q5, q6, q7, q8, q9, q10, q11⟩), .bool false]) ?_ rfl (read_end HHD.out HPD.out HZW.out HRR.out HL.out (end_wrong HWZ.out) hbf)
            exact results_cell2 (p := 2) (u := 3) rfl _ _ w.heap.size 23 (Rc.cells ⟨q0, q1, q2, qa, qb, q5, q6, q7, q8, q9, q10, q11⟩) (0, 0) _ rfl hx Tryd.underlying23 rfl rfl
  · have HL := Lib.hid hlen
    clear hlen
    have hz : RcB W0 w.heap.size rcZ := by rw [← HW0.out]; exact new_at w _
    have HZ := Lib.hid hz
    clear hz
    go_enter Tryd.func24, Tryd.ntmps24
    go_wp2_with (go_at_call 28; (with_reducible refine (split_sp s _ HS.out).mono ?_); rintro e w1 ⟨H1, H2, H3⟩; obtain rfl := H2 (by have := HL.out; omega); have HB := Lib.hid H3; have hz1 := HZ.out.below H3 (by omega); obtain ⟨z0, z1, z2, z3, z4, z5, z6, z7, z8, z9, z10, z11⟩ := hz1.cells; have zf := hz1.fr; have HZ1 := Lib.hid hz1; clear H1 H2 H3 hz1)
    obtain ⟨Wf, hWf⟩ : ∃ W, ((((((((((((w1.setCell ⟨w.heap.size, 0, none⟩ (.int .i64 0)).setCell ⟨w.heap.size, 1, none⟩ (.int .i64 0)).setCell ⟨w.heap.size, 2, none⟩ (.int .i64 0)).setCell ⟨w.heap.size, 3, none⟩ (.string ⟨#[]⟩)).setCell ⟨w.heap.size, 4, none⟩ (.string ⟨#[]⟩)).setCell ⟨w.heap.size, 5, none⟩ (.int .i64 0)).setCell ⟨w.heap.size, 6, none⟩ (.int .i64 0)).setCell ⟨w.heap.size, 7, none⟩ (.int .i64 0)).setCell ⟨w.heap.size, 8, none⟩ (.int .i64 0)).setCell ⟨w.heap.size, 9, none⟩ (.bool false)).setCell ⟨w.heap.size, 10, none⟩ (.int .i64 0)).setCell ⟨w.heap.size, 11, none⟩ (.bool false)) = W := ⟨_, rfl⟩
    have hx : RcB Wf w.heap.size rcZ := by rw [← hWf]; exact put12 _ _ _ _ _ _ _ _ _ _ _ _ HZ1.out
    have hbf : Below w.heap.size w Wf := by
      rw [← hWf]
      refine below12' (below_first HW0.out HB.out) (Nat.le_refl _) _ _ _ _ _ _ _ _ _ _ _ _
    rw [hWf]
    clear hWf
    refine bodyPost_ret (v := .tuple #[.agg rcZ.cells, .bool false]) ?_ rfl ⟨fun _ => rfl, fun h => absurd h (by have := HL.out; omega), hbf⟩
    exact results_cell2 (p := 2) (u := 3) rfl _ _ w.heap.size 23 rcZ.cells (0, 0) _ rfl hx Tryd.underlying23 rfl rfl
end Go.Proofs.YtokdfdinnaghmaaDoor.Tx
