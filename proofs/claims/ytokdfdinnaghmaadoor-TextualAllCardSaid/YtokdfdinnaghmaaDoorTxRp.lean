/- Walk: the reference's parse. -/
import Derived.Test.YtokdfdinnaghmaaDoorTxPz
import Derived.Test.YtokdfdinnaghmaaDoorTxRd
import Derived.Test.YtokdfdinnaghmaaDoorTxWd
import Derived.StillTailTactics
import Derived.Deep.Cut
import Derived.Deep.CutRange
namespace Go.Proofs.YtokdfdinnaghmaaDoor.Tx
open Go Go.Lib Go.RowKit

/-- The state of parse: the result in block b, the record behind it. -/
structure PrI (w0 : World) (b : Nat) (r : Rc) (W : World) : Prop where
  rc : RcB W (b + 1) r
  rz : RcB W b rcZ
  bel : Below b w0 W
theorem PrI.stor {w0 W : World} {b : Nat} {r r' : Rc} (h : PrI w0 b r W) (k : Nat) (v : Value) (hr : RcB (W.setCell ⟨b + 1, k, none⟩ v) (b + 1) r') : PrI w0 b r' (W.setCell ⟨b + 1, k, none⟩ v) where
  rc := hr
  rz := RcB.grown h.rz (gr_set _ _ _ _) (by omega)
  bel := h.bel.setCell (by show b ≤ b + 1; omega) _
def ParseOut (ws : List Wd) (w : World) (e : Ending) (w' : World) : Prop :=
  (∃ r, e = .returned (.tuple #[.agg r.cells, .bool (parseW ws).isSome]) ∧ ∀ n, parseW ws = some n → Lr n r) ∧ Below w.heap.size w w'
theorem parse_no {ws : List Wd} (h : parseW ws = none) {w w' : World} (hb : Below w.heap.size w w') : ParseOut ws w (.returned (.tuple #[.agg rcZ.cells, .bool false])) w' :=
  ⟨⟨rcZ, by rw [h]; rfl, fun n hn => by rw [h] at hn; cases hn⟩, hb⟩
theorem bsz2 (a : ByteArray) : a.data.toList.length = a.size := by simp
theorem sz_pos {x : ByteArray} (h : x.data.toList ≠ []) : ((x.size : Int) == 0) = false := by
  have : x.size ≠ 0 := fun e => h (List.eq_nil_of_length_eq_zero (by rw [bsz2]; exact e))
  rw [beq_eq_false_iff_ne]; omega
theorem sz_zero {x : ByteArray} (h : x.data.toList = []) : ((x.size : Int) == 0) = true := by
  have : x.size = 0 := by rw [← bsz2, h]; rfl
  rw [this]; rfl
theorem PrI.first {w : World} : PrI w w.heap.size rcZ ((w.alloc (.cells rcZ.cells 23)).alloc (.cells rcZ.cells 23)) where
  rc := by
    have := new_at (w.alloc (.cells rcZ.cells 23)) (.cells rcZ.cells 23)
    rw [World.size_alloc] at this
    exact this
  rz := by
    have h1 : RcB (w.alloc (.cells rcZ.cells 23)) w.heap.size rcZ := new_at w _
    exact h1.below ((Below.refl _ _).alloc (Nat.le_refl _) _) (by simp)
  bel := ((Below.refl _ w).alloc (Nat.le_refl _) _).alloc (by simp) _
-- WALK
theorem seven : ∀ l : List ByteArray, 7 ≤ l.length → ∃ x0 x1 x2 x3 x4 x5 x6 lt, l = x0 :: x1 :: x2 :: x3 :: x4 :: x5 :: x6 :: lt
  | [], h | [_], h | [_, _], h | [_, _, _], h | [_, _, _, _], h | [_, _, _, _, _], h | [_, _, _, _, _, _], h => by simp at h
  | x0 :: x1 :: x2 :: x3 :: x4 :: x5 :: x6 :: lt, _ => ⟨x0, x1, x2, x3, x4, x5, x6, lt, rfl⟩
theorem row_read {w : World} {A : Option Addr} {n cp B : Nat} {l : List ByteArray} (ho : w.ownsRow B 9 1 (.slice A n cp) n (l.map Value.string)) (h : 0 < n) :
    ∃ g, A = some ⟨g, 0, none⟩ ∧ g < w.heap.size ∧ n ≤ cp ∧ ∀ k x, l[k]? = some x → w.cell? ⟨g, k, none⟩ = some (.string x) := by
  rcases ho.2 with ⟨h2, h3⟩ | ⟨g', cap', cur, hv, _, hh, h5, _⟩
  · cases h2; omega
  · cases hv
    refine ⟨g', rfl, (Array.getElem?_eq_some_iff.1 hh).1, h5, fun k x hx => ?_⟩
    have h3 := ho.cells (g := g') rfl k (.string x) (by rw [List.getElem?_map, hx]; rfl)
    have ha : ((⟨g', 0, none⟩ : Addr).add k) = ⟨g', k, none⟩ := by unfold Addr.add; split <;> simp_all
    rw [← ha]; exact h3
theorem ne_litL {x : ByteArray} {l : Wd} (h : x.data.toList ≠ l) : (x.toList == l) = false := by
  rw [beq_eq_false_iff_ne, ByteArray.toList_eq]; exact h
theorem lit_eq (l : Wd) : ((⟨l.toArray⟩ : ByteArray).toList == l) = true := by
  rw [ByteArray.toList_eq]; simp
theorem pz_short : ∀ {t : List Wd}, t.length < 3 → pzPart t = ⟨0, 0, false, t⟩
  | [], _ => rfl
  | [_], _ => rfl
  | [_, _], _ => rfl
  | _ :: _ :: _ :: _, h => by simp at h; omega
theorem pz_other {p c n : Wd} {t : List Wd} (h : p ≠ wPart) : pzPart (p :: c :: n :: t) = ⟨0, 0, false, p :: c :: n :: t⟩ := by simp [pzPart, h]
theorem pz_end {c n : Wd} : pzPart [wPart, c, n] = ⟨vZ c, vZ n, false, []⟩ := by simp [pzPart]
theorem pz_last {c n : Wd} {t : List Wd} : pzPart (wPart :: c :: n :: wLast :: t) = ⟨vZ c, vZ n, true, t⟩ := by simp [pzPart]
theorem pz_more {c n l : Wd} {t : List Wd} (h : l ≠ wLast) : pzPart (wPart :: c :: n :: l :: t) = ⟨vZ c, vZ n, false, l :: t⟩ := by simp [pzPart, h]
theorem wz_short : ∀ {t : List Wd}, t.length < 2 → wzWay t = ⟨false, 0, t⟩
  | [], _ => rfl
  | [_], _ => rfl
  | _ :: _ :: _, h => by simp at h; omega
theorem wz_in {n : Wd} {t : List Wd} : wzWay (wIn :: n :: t) = ⟨true, vZ n, t⟩ := by simp [wzWay]
theorem wz_out {n : Wd} {t : List Wd} : wzWay (wOut :: n :: t) = ⟨false, vZ n, t⟩ := by
  have : wOut ≠ wIn := by decide
  simp [wzWay, this]
theorem wz_other {d n : Wd} {t : List Wd} (h : d ≠ wIn) (k : d ≠ wOut) : wzWay (d :: n :: t) = ⟨false, 0, d :: n :: t⟩ := by simp [wzWay, h, k]
theorem rc_far1 {W : World} {b i : Nat} {v : Value} {r : Rc} (h : RcB W b r) : RcB (W.setCell ⟨b + 1, i, none⟩ v) b r := RcB.grown h (gr_set _ _ _ _) (by omega)
theorem PrI.drew {w0 W : World} {b : Nat} {r : Rc} (h : PrI w0 b r W) : PrI w0 b r W.drew := ⟨h.rc, h.rz, below_drew1 h.bel⟩
theorem rc_far {W : World} {b : Nat} {r : Rc} (h : RcB W b r) (v0 v1 v2 v3 v4 v5 v6 v7 v8 v9 v10 v11 : Value) : RcB ((((((((((((W.setCell ⟨b + 1, 0, none⟩ v0).setCell ⟨b + 1, 1, none⟩ v1).setCell ⟨b + 1, 2, none⟩ v2).setCell ⟨b + 1, 3, none⟩ v3).setCell ⟨b + 1, 4, none⟩ v4).setCell ⟨b + 1, 5, none⟩ v5).setCell ⟨b + 1, 6, none⟩ v6).setCell ⟨b + 1, 7, none⟩ v7).setCell ⟨b + 1, 8, none⟩ v8).setCell ⟨b + 1, 9, none⟩ v9).setCell ⟨b + 1, 10, none⟩ v10).setCell ⟨b + 1, 11, none⟩ v11) b r := by
  repeat' apply rc_far1
  exact h
def rcH (x0 x1 x2 x3 bq x5 x6 : ByteArray) : Rc := ⟨vZ x1.data.toList, vZ x2.data.toList, ((kindW x0.data.toList : Nat) : Int), x3, bq, vZ x5.data.toList, vZ x6.data.toList, 0, 0, false, 0, false⟩
theorem value_at (s : ByteArray) (w : World) (hs : s.size ≤ maxLen) : Calls Tryd.prog 42 #[.string s] w fun e w' => e = .returned (.int .i64 (vZ s.data.toList)) ∧ w = w' :=
  (value_any s w hs).mono fun _ _ ⟨a, b⟩ => ⟨a, b.symm⟩
def PartRel (w : World) (b : Nat) (r : Rc) (n : Nat) (ls : List ByteArray) (z : PZ) (v : Value) (wx : World) : Prop :=
  ∃ (i : Nat) (lr : List ByteArray), v = .int .i64 i ∧ i + lr.length = n ∧ ls.drop i = lr ∧ byt lr = z.rest ∧ PrI w b { r with s7 := z.cl, s8 := z.pt, b9 := z.la } wx
def WayRel (w : World) (b : Nat) (r : Rc) (n : Nat) (z : WZ) (v : Value) (wx : World) : Prop :=
  ∃ (i m : Nat), v = .int .i64 i ∧ i + m = n ∧ (m = 0 ↔ z.rest = []) ∧ PrI w b { r with s10 := z.tr, b11 := z.inb } wx
theorem drop_at {l t : List ByteArray} {i : Nat} {x : ByteArray} (h : l.drop i = x :: t) : l[i]? = some x := by
  have := congrArg (fun l : List ByteArray => l[0]?) h
  simpa using this
theorem drop_at2 {l t : List ByteArray} {i : Nat} {x y : ByteArray} (h : l.drop i = x :: y :: t) : l[i + 1]? = some y := by
  have := congrArg (fun l : List ByteArray => l[1]?) h
  simpa using this
theorem byt_cons (x : ByteArray) (l : List ByteArray) : byt (x :: l) = x.data.toList :: byt l := rfl
theorem parse_fin {ws : List Wd} {k so se a b st un : Wd} {t : List Wd} (hws : ws = k :: so :: se :: a :: b :: st :: un :: t) (ha : a ≠ []) (hb : b ≠ []) {p : PZ} (hp : pzPart t = p) {y : WZ} (hy : wzWay p.rest = y) {bv : Bool} (hbv : bv = okZ ⟨kindW k, vZ so, vZ se, a, nob b, vZ st, vZ un⟩ p y)
    {sa sb : ByteArray} (hsb : sb.data.toList = nob b) (la : sa.size ≤ maxLen) (lb : sb.size ≤ maxLen) {w w' : World} (hbl : Below w.heap.size w w') (hsa : sa.data.toList = a := by rfl) :
    ParseOut ws w (.returned (.tuple #[.agg (Rc.cells ⟨vZ so, vZ se, ((kindW k : Nat) : Int), sa, sb, vZ st, vZ un, p.cl, p.pt, p.la, y.tr, y.inb⟩), .bool bv])) w' := by
  have e := parseZ (k := k) (so := so) (se := se) (st := st) (un := un) ha hb hp hy
  rw [← hws] at e
  subst hbv
  refine ⟨⟨⟨vZ so, vZ se, ((kindW k : Nat) : Int), sa, sb, vZ st, vZ un, p.cl, p.pt, p.la, y.tr, y.inb⟩, ?_, fun n hn => ?_⟩, hbl⟩
  · rw [e]
    cases h : okZ ⟨kindW k, vZ so, vZ se, a, nob b, vZ st, vZ un⟩ p y
    · rfl
    · rfl
  · rw [e] at hn
    cases h : okZ ⟨kindW k, vZ so, vZ se, a, nob b, vZ st, vZ un⟩ p y with
    | false => rw [h] at hn; cases hn
    | true =>
      rw [h] at hn
      cases hn
      simp [okZ] at h
      obtain ⟨-, h2⟩ := h
      refine ⟨?_, ?_, rfl, hsa, hsb, ?_, ?_, ?_, ?_, rfl, ?_, rfl, la, lb⟩ <;> simp only [lnZ] <;> omega
theorem way_rel {w wx : World} {b n i : Nat} {r : Rc} {ls lr : List ByteArray} {zr : List Wd} {y : WZ} {v : Value} {c : Bool} {u : Int} (hy : wzWay zr = y) (hb : byt lr = zr) (h : wzWay (byt lr) = ⟨c, u, byt ls⟩) (hi : i + ls.length = n) (hv : v = .int .i64 i)
    (hp : PrI w b { r with s10 := u, b11 := c } wx) : WayRel w b r n y v wx := by
  subst hb
  rw [h] at hy
  subst hy
  exact ⟨i, ls.length, hv, hi, by simp [byt], hp⟩
set_option maxRecDepth 100000 in
set_option maxHeartbeats 16000000 in
theorem parse_any {w : World} {A : Option Addr} {n cp : Nat} {l : List ByteArray} {B : Nat} (ho : w.ownsRow B 9 1 (.slice A n cp) n (l.map Value.string)) (hl : l.length = n) (hn : n ≤ 1000000) (hz : ∀ x ∈ l, x.size ≤ maxLen) :
    Calls Tryd.prog 25 #[.slice A n cp] w (ParseOut (byt l) w) := by
  have HP0 := Lib.hid (PrI.first (w := w))
  by_cases h7 : n < 7
  · have hd : decide ((n : Int) < 7) = true := by simp; omega
    have HN : Hid (parseW (byt l) = none) := Lib.hid (parse_short (by rw [byt_len]; omega))
    clear ho hz hn h7 hl
    obtain ⟨W0, hW0⟩ : ∃ W, (w.alloc (.cells rcZ.cells 23)).alloc (.cells rcZ.cells 23) = W := ⟨_, rfl⟩
    rw [hW0] at HP0
    have HW0 := Lib.hid (show Below w.heap.size w W0 from HP0.out.bel)
    simp only [Rc.cells, rcZ] at hW0
    obtain ⟨k0, k1, k2, k3, k4, k5, k6, k7, k8, k9, k10, k11⟩ := HP0.out.rc.cells
    obtain ⟨j0, j1, j2, j3, j4, j5, j6, j7, j8, j9, j10, j11⟩ := HP0.out.rz.cells
    have hfr := HP0.out.rz.fr
    have hfk := HP0.out.rc.fr
    simp only [rcZ] at k0 k1 k2 k3 k4 k5 k6 k7 k8 k9 k10 k11 j0 j1 j2 j3 j4 j5 j6 j7 j8 j9 j10 j11
    go_enter Tryd.func25, Tryd.ntmps25
    go_wp2_with fail
    refine bodyPost_ret (v := .tuple #[.agg rcZ.cells, .bool false]) ?_ rfl (parse_no HN.out ?_)
    · exact results_cell2 (p := 2) (u := 3) rfl _ _ w.heap.size 23 rcZ.cells (0, 0) _ rfl (put12 0 0 0 ⟨#[]⟩ ⟨#[]⟩ 0 0 0 0 false 0 false HP0.out.rz) Tryd.underlying23 rfl rfl
    · have h9 := below12' HP0.out.bel (Nat.le_refl _) (.int .i64 0) (.int .i64 0) (.int .i64 0) (.string ⟨#[]⟩) (.string ⟨#[]⟩) (.int .i64 0) (.int .i64 0) (.int .i64 0) (.int .i64 0) (.bool false) (.int .i64 0) (.bool false); exact h9
  · have hd : decide ((n : Int) < 7) = false := by simp; omega
    obtain ⟨g, rfl, hg, hcp, hcell⟩ := row_read ho (by omega)
    obtain ⟨x0, x1, x2, x3, x4, x5, x6, lt, rfl⟩ := seven l (by omega)
    have HC : Hid (∀ W, Below w.heap.size w W → ∀ k x, (x0 :: x1 :: x2 :: x3 :: x4 :: x5 :: x6 :: lt)[k]? = some x → W.cell? ⟨g, k, none⟩ = some (.string x)) := Lib.hid fun W hW k x hx => (hW.cell (p := ⟨g, k, none⟩) hg).trans (hcell k x hx)
    have zz : ∀ x ∈ (x0 :: x1 :: x2 :: x3 :: x4 :: x5 :: x6 :: lt), x.size ≤ maxLen := hz
    have HZ := Lib.hid zz
    have HLN := Lib.hid hl
    have hn7 : 7 ≤ n := by omega
    have HG := Lib.hid hg
    clear ho hz zz hcell hg hl h7
    obtain ⟨W0, hW0⟩ : ∃ W, (w.alloc (.cells rcZ.cells 23)).alloc (.cells rcZ.cells 23) = W := ⟨_, rfl⟩
    rw [hW0] at HP0
    have HW0 := Lib.hid (show Below w.heap.size w W0 from HP0.out.bel)
    simp only [Rc.cells, rcZ] at hW0
    obtain ⟨k0, k1, k2, k3, k4, k5, k6, k7, k8, k9, k10, k11⟩ := HP0.out.rc.cells
    obtain ⟨j0, j1, j2, j3, j4, j5, j6, j7, j8, j9, j10, j11⟩ := HP0.out.rz.cells
    have hfr := HP0.out.rz.fr
    have hfk := HP0.out.rc.fr
    simp only [rcZ] at k0 k1 k2 k3 k4 k5 k6 k7 k8 k9 k10 k11 j0 j1 j2 j3 j4 j5 j6 j7 j8 j9 j10 j11
    have q3 := HC.out _ HW0.out 3 x3 rfl
    have q4 := HC.out _ HW0.out 4 x4 rfl
    by_cases c3 : x3.data.toList = []
    · have e3 := sz_zero c3
      have HN : Hid (parseW (byt (x0 :: x1 :: x2 :: x3 :: x4 :: x5 :: x6 :: lt)) = none) := Lib.hid (parse_empty (.inl c3))
      clear c3
      go_enter Tryd.func25, Tryd.ntmps25
      go_wp2_with fail
      refine bodyPost_ret (v := .tuple #[.agg rcZ.cells, .bool false]) ?_ rfl (parse_no HN.out ?_)
      · exact results_cell2 (p := 2) (u := 3) rfl _ _ w.heap.size 23 rcZ.cells (0, 0) _ rfl (put12 0 0 0 ⟨#[]⟩ ⟨#[]⟩ 0 0 0 0 false 0 false HP0.out.rz) Tryd.underlying23 rfl rfl
      · have h9 := below12' HP0.out.bel (Nat.le_refl _) (.int .i64 0) (.int .i64 0) (.int .i64 0) (.string ⟨#[]⟩) (.string ⟨#[]⟩) (.int .i64 0) (.int .i64 0) (.int .i64 0) (.int .i64 0) (.bool false) (.int .i64 0) (.bool false); exact h9
    by_cases c4 : x4.data.toList = []
    · have e3 := sz_pos c3
      have e4 := sz_zero c4
      have HN : Hid (parseW (byt (x0 :: x1 :: x2 :: x3 :: x4 :: x5 :: x6 :: lt)) = none) := Lib.hid (parse_empty (.inr c4))
      clear c3 c4
      go_enter Tryd.func25, Tryd.ntmps25
      go_wp2_with fail
      refine bodyPost_ret (v := .tuple #[.agg rcZ.cells, .bool false]) ?_ rfl (parse_no HN.out ?_)
      · exact results_cell2 (p := 2) (u := 3) rfl _ _ w.heap.size 23 rcZ.cells (0, 0) _ rfl (put12 0 0 0 ⟨#[]⟩ ⟨#[]⟩ 0 0 0 0 false 0 false HP0.out.rz) Tryd.underlying23 rfl rfl
      · have h9 := below12' HP0.out.bel (Nat.le_refl _) (.int .i64 0) (.int .i64 0) (.int .i64 0) (.string ⟨#[]⟩) (.string ⟨#[]⟩) (.int .i64 0) (.int .i64 0) (.int .i64 0) (.int .i64 0) (.bool false) (.int .i64 0) (.bool false); exact h9
    have e3 := sz_pos c3
    have e4 := sz_pos c4
    have HA := Lib.hid c3; have HBN := Lib.hid c4
    clear c3 c4
    go_enter Tryd.func25, Tryd.ntmps25
    go_upto_region 4 with fail
    clear e3 e4
    have i0 : 0 < n := by omega
    have i1 : (1 : Int) < (n : Int) := by omega
    have i2 : (2 : Int) < (n : Int) := by omega
    have i3 : (3 : Int) < (n : Int) := by omega
    have i4 : (4 : Int) < (n : Int) := by omega
    have i5 : (5 : Int) < (n : Int) := by omega
    have i6 : (6 : Int) < (n : Int) := by omega
    go_cut [] from 25 (fun wx => PrI w w.heap.size (rcH x0 x1 x2 x3 x4 x5 x6) wx)
    case first =>
      have q0 := HC.out _ HW0.out 0 x0 rfl
      have q1 := HC.out _ HW0.out 1 x1 rfl
      have q2 := HC.out _ HW0.out 2 x2 rfl
      have q5 := HC.out _ HW0.out 5 x5 rfl
      have q6 := HC.out _ HW0.out 6 x6 rfl
      refine wp_region_still_tail 27 (by kernel_rfl) (by kernel_rfl) ?_
      simp only [List.take_succ_cons, List.take_zero, List.drop_succ_cons, List.drop_zero]
      iterate 3 still_step
      (refine wpStill_step (fun K hK => ?_); go_simp; with_reducible refine ⟨_, refKind_any x0 _, hK _ ?_⟩; clear hK K)
      iterate 3 still_step
      (refine wpStill_step (fun K hK => ?_); go_simp; with_reducible refine ⟨_, value_any x1 _ (HZ.out x1 (by simp)), hK _ ?_⟩; clear hK K)
      iterate 3 still_step
      (refine wpStill_step (fun K hK => ?_); go_simp; with_reducible refine ⟨_, value_any x2 _ (HZ.out x2 (by simp)), hK _ ?_⟩; clear hK K)
      iterate 9 still_step
      (refine wpStill_step (fun K hK => ?_); go_simp; with_reducible refine ⟨_, value_any x5 _ (HZ.out x5 (by simp)), hK _ ?_⟩; clear hK K)
      iterate 3 still_step
      (refine wpStill_step (fun K hK => ?_); go_simp; with_reducible refine ⟨_, value_any x6 _ (HZ.out x6 (by simp)), hK _ ?_⟩; clear hK K)
      still_step
      refine wpStill_nil ?_
      change wpList _ _ _ _ _ W0.drew
      generalize hW2 : World.drew W0 = W2
      have hp2 : PrI w w.heap.size rcZ W2 := hW2 ▸ HP0.out.drew
      have HP2 := Lib.hid hp2
      clear k0 k1 k2 k3 k4 k5 k6 k7 k8 k9 k10 k11 j0 j1 j2 j3 j4 j5 j6 j7 j8 j9 j10 j11 hfr hfk hp2 hW2 q0 q1 q2 q3 q4 q5 q6 hd i0 i1 i2 i3 i4 i5 i6
      obtain ⟨k0, k1, k2, k3, k4, k5, k6, k7, k8, k9, k10, k11⟩ := HP2.out.rc.cells
      have hfk := HP2.out.rc.fr
      simp only [rcZ] at k0 k1 k2 k3 k4 k5 k6 k7 k8 k9 k10 k11
      go_wp2
      go_meet
      case rel =>
        refine ⟨put12 _ _ _ _ _ _ _ _ _ _ _ _ HP2.out.rc, ?_, below12' HP2.out.bel (Nat.le_succ _) _ _ _ _ _ _ _ _ _ _ _ _⟩
        exact rc_far HP2.out.rz _ _ _ _ _ _ _ _ _ _ _ _
    case rest =>
      have HP1 := Lib.hid hcut
      clear hcut
      obtain ⟨k0, k1, k2, k3, k4, k5, k6, k7, k8, k9, k10, k11⟩ := HP1.out.rc.cells
      have hfk := HP1.out.rc.fr
      simp only [rcH] at k0 k1 k2 k3 k4 k5 k6 k7 k8 k9 k10 k11
      obtain ⟨bq, hbq, hb4⟩ : ∃ bq : ByteArray, bq.data.toList = nob x4.data.toList ∧ (x4 = ⟨#[45]⟩ ∧ bq = ⟨#[]⟩ ∨ x4.data.toList ≠ [45] ∧ bq = x4) := by
        by_cases h : x4 = ⟨#[45]⟩
        · exact ⟨⟨#[]⟩, by rw [h]; rfl, .inl ⟨h, rfl⟩⟩
        · have h9 : x4.data.toList ≠ [45] := fun e => h (ba_eq (y := ⟨#[45]⟩) e)
          exact ⟨x4, by unfold nob; rw [if_neg h9], .inr ⟨h9, rfl⟩⟩
      have HBQ := Lib.hid hbq
      have HBZ : Hid (bq.size ≤ maxLen) := Lib.hid (by
        rcases hb4 with ⟨-, h⟩ | ⟨-, h⟩
        · rw [h]; decide
        · rw [h]; exact HZ.out x4 (by simp))
      clear hbq
      go_upto_if 54 with fail
      go_cut [] from 52 (fun wx => PrI w w.heap.size (rcH x0 x1 x2 x3 bq x5 x6) wx)
      case first =>
        rcases hb4 with ⟨rfl, rfl⟩ | ⟨h4, rfl⟩
        · go_wp2_with fail
          · go_meet
            case rel => exact HP1.out.stor 4 _ (HP1.out.rc.set4 _)
          · rename_i he
            rw [lit_eq [45]] at he; cases he
        · have e := ne_litL h4
          clear h4
          go_wp2_with fail
          · rename_i he
            rw [e] at he; cases he
          · go_meet
            case rel => exact HP1.out
      case rest =>
        have HP2 := Lib.hid hcut
        have HB4 := Lib.hid hb4
        clear hcut hb4 k0 k1 k2 k3 k4 k5 k6 k7 k8 k9 k10 k11 hfk
        obtain ⟨k0, k1, k2, k3, k4, k5, k6, k7, k8, k9, k10, k11⟩ := HP2.out.rc.cells
        have hfk := HP2.out.rc.fr
        simp only [rcH] at k0 k1 k2 k3 k4 k5 k6 k7 k8 k9 k10 k11
        have hgn : ¬ g = w.heap.size + 1 := by have := HG.out; omega
        have hgn2 : ¬ w.heap.size + 1 = g := by have := HG.out; omega
        obtain ⟨cp, hcp2⟩ : ∃ cp : Bool, (cp = true ∧ ∃ y1 y2 lr, lt = ⟨#[112, 97, 114, 116]⟩ :: y1 :: y2 :: lr) ∨ (cp = false ∧ lt.length < 3) ∨ (cp = false ∧ ∃ y0 y1 y2 lr, lt = y0 :: y1 :: y2 :: lr ∧ y0.data.toList ≠ [112, 97, 114, 116]) := by
          match lt with
          | [] => exact ⟨false, .inr (.inl ⟨rfl, by simp⟩)⟩
          | [_] => exact ⟨false, .inr (.inl ⟨rfl, by simp⟩)⟩
          | [_, _] => exact ⟨false, .inr (.inl ⟨rfl, by simp⟩)⟩
          | y0 :: y1 :: y2 :: lr =>
            by_cases hp : y0 = ⟨#[112, 97, 114, 116]⟩
            · exact ⟨true, .inl ⟨rfl, y1, y2, lr, by rw [hp]⟩⟩
            · exact ⟨false, .inr (.inr ⟨rfl, y0, y1, y2, lr, rfl, fun e => hp (ba_eq (y := ⟨#[112, 97, 114, 116]⟩) e)⟩)⟩
        have HCP := Lib.hid hcp2
        clear hcp2
        go_upto_region 8 with fail
        go_cut [67] from 56 (fun s67 wx => wc = wx ∧ s67 = .bool cp)
        case first =>
          rcases HCP.out with ⟨rfl, y1, y2, lr, rfl⟩ | ⟨rfl, h3⟩ | ⟨rfl, y0, y1, y2, lr, rfl, h3⟩
          · have d9 : decide ((9 : Int) < (n : Int)) = true := decide_eq_true (by have := HLN.out; simp at this; omega)
            have i7 : (7 : Int) < (n : Int) := by have := HLN.out; simp at this; omega
            have q7 := HC.out _ HP2.out.bel 7 _ rfl
            have e7 := lit_eq [112, 97, 114, 116]
            go_wp2_with fail
            go_meet
            case rel => exact ⟨rfl, rfl⟩
          · have d9 : decide ((9 : Int) < (n : Int)) = false := decide_eq_false (by have := HLN.out; simp at this; omega)
            clear h3
            go_wp2_with fail
            go_meet
            case rel => exact ⟨rfl, rfl⟩
          · have d9 : decide ((9 : Int) < (n : Int)) = true := decide_eq_true (by have := HLN.out; simp at this; omega)
            have i7 : (7 : Int) < (n : Int) := by have := HLN.out; simp at this; omega
            have q7 := HC.out _ HP2.out.bel 7 _ rfl
            have e7 := ne_litL h3
            clear h3
            go_wp2_with fail
            go_meet
            case rel => exact ⟨rfl, rfl⟩
        case rest =>
          obtain ⟨rfl, rfl⟩ := hcut
          go_upto_if 67 with fail
          go_cut [5] from 56 (fun s5 wx => PartRel w w.heap.size (rcH x0 x1 x2 x3 bq x5 x6) n (x0 :: x1 :: x2 :: x3 :: x4 :: x5 :: x6 :: lt) (pzPart (byt lt)) s5 wx)
          case first =>
            rcases HCP.out with ⟨rfl, y1, y2, lr, rfl⟩ | ⟨rfl, h3⟩ | ⟨rfl, y0, y1, y2, lr, rfl, h3⟩
            · have i8 : (8 : Int) < (n : Int) := by have := HLN.out; simp at this; omega
              have i9 : (9 : Int) < (n : Int) := by have := HLN.out; simp at this; omega
              have q8 := HC.out _ HP2.out.bel 8 _ rfl
              have q9 := HC.out _ HP2.out.bel 9 _ rfl
              have HV1 := Lib.hid (fun W => value_at y1 W (HZ.out y1 (by simp)))
              have HV2 := Lib.hid (fun W => value_at y2 W (HZ.out y2 (by simp)))
              have HP3 := Lib.hid (HP2.out.stor 7 (.int .i64 (vZ y1.data.toList)) (HP2.out.rc.set7 _))
              have HP4 := Lib.hid (HP3.out.stor 8 (.int .i64 (vZ y2.data.toList)) (HP3.out.rc.set8 _))
              match lr, HLN with
              | [], HLN =>
                have d10 : decide ((10 : Int) < (n : Int)) = false := decide_eq_false (by have := HLN.out; simp at this; omega)
                go_wp2_with (first | (go_at_call 42; (with_reducible refine (HV1.out _).mono ?_); rintro e w3 ⟨rfl, rfl⟩) | (go_at_call 42; (with_reducible refine (HV2.out _).mono ?_); rintro e w3 ⟨rfl, rfl⟩))
                go_meet
                case rel => exact ⟨10, [], rfl, by have := HLN.out; simpa using this, rfl, by rw [byt_cons, byt_cons, byt_cons]; exact congrArg PZ.rest pz_end.symm, HP4.out⟩
              | y3 :: t, HLN =>
                have d10 : decide ((10 : Int) < (n : Int)) = true := decide_eq_true (by have := HLN.out; simp at this; omega)
                have i10 : (10 : Int) < (n : Int) := by have := HLN.out; simp at this; omega
                have q10 := HC.out _ HP4.out.bel 10 _ rfl
                by_cases hla : y3 = ⟨#[108, 97, 115, 116]⟩
                · subst hla
                  have e10 := lit_eq [108, 97, 115, 116]
                  go_wp2_with (first | (go_at_call 42; (with_reducible refine (HV1.out _).mono ?_); rintro e w3 ⟨rfl, rfl⟩) | (go_at_call 42; (with_reducible refine (HV2.out _).mono ?_); rintro e w3 ⟨rfl, rfl⟩))
                  go_meet
                  case rel => exact ⟨11, t, rfl, by have := HLN.out; simp at this; omega, rfl, by rw [byt_cons, byt_cons, byt_cons, byt_cons]; exact congrArg PZ.rest pz_last.symm, by rw [byt_cons, byt_cons, byt_cons, byt_cons]; have h9 := pz_last (c := y1.data.toList) (n := y2.data.toList) (t := byt t); have h8 := HP4.out.stor 9 (.bool true) (HP4.out.rc.set9 _); show PrI w _ { rcH x0 x1 x2 x3 bq x5 x6 with s7 := (pzPart (wPart :: y1.data.toList :: y2.data.toList :: wLast :: byt t)).cl, s8 := (pzPart (wPart :: y1.data.toList :: y2.data.toList :: wLast :: byt t)).pt, b9 := (pzPart (wPart :: y1.data.toList :: y2.data.toList :: wLast :: byt t)).la } _; rw [h9]; exact h8⟩
                · have hl2 : y3.data.toList ≠ [108, 97, 115, 116] := fun e => hla (ba_eq (y := ⟨#[108, 97, 115, 116]⟩) e)
                  have e10 := ne_litL hl2
                  have HW := Lib.hid hl2
                  clear hla hl2
                  go_wp2_with (first | (go_at_call 42; (with_reducible refine (HV1.out _).mono ?_); rintro e w3 ⟨rfl, rfl⟩) | (go_at_call 42; (with_reducible refine (HV2.out _).mono ?_); rintro e w3 ⟨rfl, rfl⟩))
                  go_meet
                  case rel =>
                    have h9 := pz_more (c := y1.data.toList) (n := y2.data.toList) (l := y3.data.toList) (t := byt t) HW.out
                    exact ⟨10, y3 :: t, rfl, by have := HLN.out; simp at this; simp; omega, rfl, by rw [byt_cons, byt_cons, byt_cons, byt_cons]; exact congrArg PZ.rest h9.symm, by rw [byt_cons, byt_cons, byt_cons, byt_cons]; show PrI w _ { rcH x0 x1 x2 x3 bq x5 x6 with s7 := (pzPart (wPart :: y1.data.toList :: y2.data.toList :: y3.data.toList :: byt t)).cl, s8 := (pzPart (wPart :: y1.data.toList :: y2.data.toList :: y3.data.toList :: byt t)).pt, b9 := (pzPart (wPart :: y1.data.toList :: y2.data.toList :: y3.data.toList :: byt t)).la } _; rw [h9]; exact HP4.out⟩
            · go_wp2_with fail
              go_meet
              case rel =>
                have h9 := pz_short (t := byt lt) (by rw [byt_len]; exact h3)
                exact ⟨7, lt, rfl, by have := HLN.out; simp at this; omega, rfl, by rw [h9], by rw [h9]; exact HP2.out⟩
            · go_wp2_with fail
              go_meet
              case rel =>
                have h9 := pz_other (p := y0.data.toList) (c := y1.data.toList) (n := y2.data.toList) (t := byt lr) h3
                exact ⟨7, y0 :: y1 :: y2 :: lr, rfl, by have := HLN.out; simp at this; simp; omega, rfl, by rw [byt_cons, byt_cons, byt_cons, h9], by rw [byt_cons, byt_cons, byt_cons, h9]; exact HP2.out⟩
          case rest =>
            obtain ⟨i, lr, rfl, hil, hdr, hbr, hp5⟩ := hcut
            obtain ⟨z, hz⟩ : ∃ z, pzPart (byt lt) = z := ⟨_, rfl⟩
            rw [hz] at hbr hp5
            have HZZ := Lib.hid hz; have HIL := Lib.hid hil; have HDR := Lib.hid hdr; have HBR := Lib.hid hbr; have HP5 := Lib.hid hp5
            clear hz hil hdr hbr hp5 k0 k1 k2 k3 k4 k5 k6 k7 k8 k9 k10 k11 hfk
            obtain ⟨k0, k1, k2, k3, k4, k5, k6, k7, k8, k9, k10, k11⟩ := HP5.out.rc.cells
            have hfk := HP5.out.rc.fr
            simp only [rcH] at k0 k1 k2 k3 k4 k5 k6 k7 k8 k9 k10 k11
            have hi0 : i ≤ 1000000 := by have := HIL.out; omega
            obtain ⟨cw, hcw⟩ : ∃ cw : Bool, (cw = true ∧ ∃ d m t, lr = d :: m :: t ∧ (d = ⟨#[105, 110]⟩ ∨ d = ⟨#[111, 117, 116]⟩)) ∨ (cw = false ∧ lr.length < 2) ∨ (cw = false ∧ ∃ d m t, lr = d :: m :: t ∧ d.data.toList ≠ [105, 110] ∧ d.data.toList ≠ [111, 117, 116]) := by
              match lr with
              | [] => exact ⟨false, .inr (.inl ⟨rfl, by simp⟩)⟩
              | [_] => exact ⟨false, .inr (.inl ⟨rfl, by simp⟩)⟩
              | d :: m :: t =>
                by_cases h1 : d = ⟨#[105, 110]⟩
                · exact ⟨true, .inl ⟨rfl, d, m, t, rfl, .inl h1⟩⟩
                · by_cases h2 : d = ⟨#[111, 117, 116]⟩
                  · exact ⟨true, .inl ⟨rfl, d, m, t, rfl, .inr h2⟩⟩
                  · exact ⟨false, .inr (.inr ⟨rfl, d, m, t, rfl, fun e => h1 (ba_eq (y := ⟨#[105, 110]⟩) e), fun e => h2 (ba_eq (y := ⟨#[111, 117, 116]⟩) e)⟩)⟩
            have HCW := Lib.hid hcw
            clear hcw
            go_upto_region 15 with fail
            go_cut [116] from 98 (fun s116 wx => wc = wx ∧ s116 = .bool cw)
            case first =>
              rcases HCW.out with ⟨rfl, d, m, t, rfl, hd3⟩ | ⟨rfl, h3⟩ | ⟨rfl, d, m, t, rfl, h3, h4⟩
              · have d1 : decide ((i : Int) + 1 < (n : Int)) = true := decide_eq_true (by have := HIL.out; simp at this; omega)
                have i7 : (i : Int) < (n : Int) := by have := HIL.out; simp at this; omega
                have i8 : i < n := by have := HIL.out; simp at this; omega
                have q7 := HC.out _ HP5.out.bel i _ (drop_at HDR.out)
                rcases hd3 with rfl | rfl
                · have e7 := lit_eq [105, 110]
                  go_wp2_with fail
                  go_meet
                  case rel => exact ⟨rfl, rfl⟩
                · have e7 := lit_eq [111, 117, 116]
                  have e8 : ((⟨#[111, 117, 116]⟩ : ByteArray).toList == [105, 110]) = false := ne_litL (by decide)
                  go_wp2_with fail
                  go_meet
                  case rel => exact ⟨rfl, rfl⟩
              · have d1 : decide ((i : Int) + 1 < (n : Int)) = false := decide_eq_false (by have := HIL.out; omega)
                clear h3
                go_wp2_with fail
                go_meet
                case rel => exact ⟨rfl, rfl⟩
              · have d1 : decide ((i : Int) + 1 < (n : Int)) = true := decide_eq_true (by have := HIL.out; simp at this; omega)
                have i7 : (i : Int) < (n : Int) := by have := HIL.out; simp at this; omega
                have i8 : i < n := by have := HIL.out; simp at this; omega
                have q7 := HC.out _ HP5.out.bel i _ (drop_at HDR.out)
                have e7 := ne_litL h3
                have e8 := ne_litL h4
                clear h3 h4
                go_wp2_with fail
                go_meet
                case rel => exact ⟨rfl, rfl⟩
            case rest =>
              obtain ⟨rfl, rfl⟩ := hcut
              obtain ⟨y, hy⟩ : ∃ y, wzWay z.rest = y := ⟨_, rfl⟩
              have HY := Lib.hid hy
              clear hy
              go_upto_if 116 with fail
              go_cut [5] from 98 (fun s5 wx => WayRel w w.heap.size { rcH x0 x1 x2 x3 bq x5 x6 with s7 := z.cl, s8 := z.pt, b9 := z.la } n y s5 wx)
              case first =>
                rcases HCW.out with ⟨rfl, d, m, t, rfl, hd3⟩ | ⟨rfl, h3⟩ | ⟨rfl, d, m, t, rfl, h3, h4⟩
                · have i7 : (i : Int) < (n : Int) := by have := HIL.out; simp at this; omega
                  have i8 : i < n := by have := HIL.out; simp at this; omega
                  have i9 : (i : Int) + 1 < (n : Int) := by have := HIL.out; simp at this; omega
                  have i10 : i + 1 < n := by have := HIL.out; simp at this; omega
                  have q7 := HC.out _ HP5.out.bel i _ (drop_at HDR.out)
                  have q8 := HC.out _ HP5.out.bel (i + 1) _ (drop_at2 HDR.out)
                  have HV1 := Lib.hid (fun W => value_at m W (HZ.out m (List.mem_of_getElem? (drop_at2 HDR.out))))
                  rcases hd3 with rfl | rfl
                  · have e7 := lit_eq [105, 110]
                    have HP6 := Lib.hid (HP5.out.stor 11 (.bool true) (HP5.out.rc.set11 _))
                    have HP7 := Lib.hid (HP6.out.stor 10 (.int .i64 (vZ m.data.toList)) (HP6.out.rc.set10 _))
                    go_wp2_with (go_at_call 42; (with_reducible refine (HV1.out _).mono ?_); rintro e w3 ⟨rfl, rfl⟩)
                    go_meet
                    case rel => exact way_rel (i := i + 2) (ls := t) HY.out HBR.out (by rw [byt_cons, byt_cons]; exact wz_in) (by have := HIL.out; simp at this; omega) (by go_num) HP7.out
                  · have e7 := lit_eq [111, 117, 116]
                    have e8 : ((⟨#[111, 117, 116]⟩ : ByteArray).toList == [105, 110]) = false := ne_litL (by decide)
                    have HP6 := Lib.hid (HP5.out.stor 11 (.bool false) (HP5.out.rc.set11 _))
                    have HP7 := Lib.hid (HP6.out.stor 10 (.int .i64 (vZ m.data.toList)) (HP6.out.rc.set10 _))
                    go_wp2_with (go_at_call 42; (with_reducible refine (HV1.out _).mono ?_); rintro e w3 ⟨rfl, rfl⟩)
                    go_meet
                    case rel => exact way_rel (i := i + 2) (ls := t) HY.out HBR.out (by rw [byt_cons, byt_cons]; exact wz_out) (by have := HIL.out; simp at this; omega) (by go_num) HP7.out
                · go_wp2_with fail
                  go_meet
                  case rel => exact way_rel HY.out HBR.out (wz_short (t := byt lr) (by rw [byt_len]; exact h3)) HIL.out rfl HP5.out
                · go_wp2_with fail
                  go_meet
                  case rel => exact way_rel HY.out HBR.out (by rw [byt_cons, byt_cons]; exact wz_other h3 h4) (by have := HIL.out; simp at this; simp; omega) rfl HP5.out
              case rest =>
                obtain ⟨i2, m2, rfl, him, hm0, hp6⟩ := hcut
                have HIM := Lib.hid him; have HM0 := Lib.hid hm0; have HP6 := Lib.hid hp6
                clear him hm0 hp6 k0 k1 k2 k3 k4 k5 k6 k7 k8 k9 k10 k11 hfk hi0
                obtain ⟨k0, k1, k2, k3, k4, k5, k6, k7, k8, k9, k10, k11⟩ := HP6.out.rc.cells
                simp only [rcH] at k0 k1 k2 k3 k4 k5 k6 k7 k8 k9 k10 k11
                obtain ⟨bd, hbd⟩ : ∃ bd : Bool, (decide (vZ x1.data.toList < 0) || decide (vZ x2.data.toList < 0) || decide (vZ x5.data.toList < 0) || decide (vZ x6.data.toList < 0) || decide (z.cl < 0) || decide (z.pt < 0) || decide (y.tr < 0)) = bd := ⟨_, rfl⟩
                have HBD := Lib.hid hbd
                clear hbd
                go_upto_region 19 with fail
                go_cut [6] from 132 (fun s6 wx => wc = wx ∧ s6 = .bool bd)
                case first =>
                  by_cases c0 : vZ x1.data.toList < 0
                  · have d0 : decide (vZ x1.data.toList < 0) = true := decide_eq_true c0
                    have hb := HBD.out
                    simp only [d0, Bool.true_or] at hb
                    subst hb
                    clear c0
                    go_wp2_with fail
                    go_meet
                    case rel => exact ⟨rfl, rfl⟩
                  have d0 : decide (vZ x1.data.toList < 0) = false := decide_eq_false c0
                  by_cases c1 : vZ x2.data.toList < 0
                  · have d1 : decide (vZ x2.data.toList < 0) = true := decide_eq_true c1
                    have hb := HBD.out
                    simp only [d0, d1, Bool.true_or, Bool.or_true] at hb
                    subst hb
                    clear c0 c1
                    go_wp2_with fail
                    go_meet
                    case rel => exact ⟨rfl, rfl⟩
                  have d1 : decide (vZ x2.data.toList < 0) = false := decide_eq_false c1
                  by_cases c2 : vZ x5.data.toList < 0
                  · have d2 : decide (vZ x5.data.toList < 0) = true := decide_eq_true c2
                    have hb := HBD.out
                    simp only [d0, d1, d2, Bool.true_or, Bool.or_true] at hb
                    subst hb
                    clear c0 c1 c2
                    go_wp2_with fail
                    go_meet
                    case rel => exact ⟨rfl, rfl⟩
                  have d2 : decide (vZ x5.data.toList < 0) = false := decide_eq_false c2
                  by_cases c3 : vZ x6.data.toList < 0
                  · have d3 : decide (vZ x6.data.toList < 0) = true := decide_eq_true c3
                    have hb := HBD.out
                    simp only [d0, d1, d2, d3, Bool.true_or, Bool.or_true] at hb
                    subst hb
                    clear c0 c1 c2 c3
                    go_wp2_with fail
                    go_meet
                    case rel => exact ⟨rfl, rfl⟩
                  have d3 : decide (vZ x6.data.toList < 0) = false := decide_eq_false c3
                  by_cases c4 : z.cl < 0
                  · have d4 : decide (z.cl < 0) = true := decide_eq_true c4
                    have hb := HBD.out
                    simp only [d0, d1, d2, d3, d4, Bool.true_or, Bool.or_true] at hb
                    subst hb
                    clear c0 c1 c2 c3 c4
                    go_wp2_with fail
                    go_meet
                    case rel => exact ⟨rfl, rfl⟩
                  have d4 : decide (z.cl < 0) = false := decide_eq_false c4
                  by_cases c5 : z.pt < 0
                  · have d5 : decide (z.pt < 0) = true := decide_eq_true c5
                    have hb := HBD.out
                    simp only [d0, d1, d2, d3, d4, d5, Bool.true_or, Bool.or_true] at hb
                    subst hb
                    clear c0 c1 c2 c3 c4 c5
                    go_wp2_with fail
                    go_meet
                    case rel => exact ⟨rfl, rfl⟩
                  have d5 : decide (z.pt < 0) = false := decide_eq_false c5
                  by_cases c6 : y.tr < 0
                  · have d6 : decide (y.tr < 0) = true := decide_eq_true c6
                    have hb := HBD.out
                    simp only [d0, d1, d2, d3, d4, d5, d6, Bool.or_true] at hb
                    subst hb
                    clear c0 c1 c2 c3 c4 c5 c6
                    go_wp2_with fail
                    go_meet
                    case rel => exact ⟨rfl, rfl⟩
                  have d6 : decide (y.tr < 0) = false := decide_eq_false c6
                  have hb := HBD.out
                  simp only [d0, d1, d2, d3, d4, d5, d6, Bool.or_self] at hb
                  subst hb
                  clear c0 c1 c2 c3 c4 c5 c6
                  go_wp2_with fail
                  go_meet
                  case rel => exact ⟨rfl, rfl⟩
                case rest =>
                  obtain ⟨rfl, rfl⟩ := hcut
                  have HF := Lib.hid (fun (bv : Bool) (hbv : bv = okZ ⟨kindW x0.data.toList, vZ x1.data.toList, vZ x2.data.toList, x3.data.toList, nob x4.data.toList, vZ x5.data.toList, vZ x6.data.toList⟩ z y) (w2 : World) (hb : Below w.heap.size w w2) => parse_fin (ws := byt (x0 :: x1 :: x2 :: x3 :: x4 :: x5 :: x6 :: lt)) rfl HA.out HBN.out HZZ.out HY.out hbv HBQ.out (HZ.out x3 (by simp)) HBZ.out hb)
                  have hjz := HP6.out.rz.cells
                  have hfr := HP6.out.rz.fr
                  simp only [rcZ] at hjz
                  obtain ⟨j0, j1, j2, j3, j4, j5, j6, j7, j8, j9, j10, j11⟩ := hjz
                  by_cases ci : m2 = 0
                  · have hyr : y.rest = [] := HM0.out.1 ci
                    have HYR := Lib.hid hyr
                    have f1 : ((i2 : Int) == (n : Int)) = true := by have := HIM.out; rw [beq_iff_eq]; omega
                    have f2 : (i2 == n) = true := by have := HIM.out; rw [beq_iff_eq]; omega
                    clear hyr ci
                    by_cases ck : 0 < kindW x0.data.toList
                    · have g1 : decide ((0 : Int) < ((kindW x0.data.toList : Nat) : Int)) = true := decide_eq_true (by omega)
                      have g2 : decide (0 < kindW x0.data.toList) = true := decide_eq_true ck
                      have HK := Lib.hid g2
                      clear ck
                      go_wp2_with fail
                      refine bodyPost_ret (v := .tuple #[.agg (Rc.cells { rcH x0 x1 x2 x3 bq x5 x6 with s7 := z.cl, s8 := z.pt, b9 := z.la, s10 := y.tr, b11 := y.inb }), .bool (!bd)]) ?_ rfl (HF.out (!bd) ?_ _ ?_)
                      · exact results_cell2 (p := 2) (u := 3) rfl _ _ w.heap.size 23 (Rc.cells { rcH x0 x1 x2 x3 bq x5 x6 with s7 := z.cl, s8 := z.pt, b9 := z.la, s10 := y.tr, b11 := y.inb }) (0, 0) _ rfl (put12 _ _ _ _ _ _ _ _ _ _ _ _ HP6.out.rz) Tryd.underlying23 rfl rfl
                      · unfold okZ; rw [HYR.out, HK.out, ← HBD.out]; simp only [Bool.true_and, decide_true]
                      · exact below12' HP6.out.bel (Nat.le_refl _) _ _ _ _ _ _ _ _ _ _ _ _
                    · have g1 : decide ((0 : Int) < ((kindW x0.data.toList : Nat) : Int)) = false := decide_eq_false (by omega)
                      have g2 : decide (0 < kindW x0.data.toList) = false := decide_eq_false ck
                      have HK := Lib.hid g2
                      clear ck
                      go_wp2_with fail
                      refine bodyPost_ret (v := .tuple #[.agg (Rc.cells { rcH x0 x1 x2 x3 bq x5 x6 with s7 := z.cl, s8 := z.pt, b9 := z.la, s10 := y.tr, b11 := y.inb }), .bool false]) ?_ rfl (HF.out false ?_ _ ?_)
                      · exact results_cell2 (p := 2) (u := 3) rfl _ _ w.heap.size 23 (Rc.cells { rcH x0 x1 x2 x3 bq x5 x6 with s7 := z.cl, s8 := z.pt, b9 := z.la, s10 := y.tr, b11 := y.inb }) (0, 0) _ rfl (put12 _ _ _ _ _ _ _ _ _ _ _ _ HP6.out.rz) Tryd.underlying23 rfl rfl
                      · unfold okZ; rw [HK.out]; simp
                      · exact below12' HP6.out.bel (Nat.le_refl _) _ _ _ _ _ _ _ _ _ _ _ _
                  · have hyr : ¬ y.rest = [] := fun e => ci (HM0.out.2 e)
                    have HYR := Lib.hid hyr
                    have f1 : ((i2 : Int) == (n : Int)) = false := by have := HIM.out; rw [beq_eq_false_iff_ne]; omega
                    have f2 : (i2 == n) = false := by have := HIM.out; rw [beq_eq_false_iff_ne]; omega
                    clear hyr ci
                    go_wp2_with fail
                    refine bodyPost_ret (v := .tuple #[.agg (Rc.cells { rcH x0 x1 x2 x3 bq x5 x6 with s7 := z.cl, s8 := z.pt, b9 := z.la, s10 := y.tr, b11 := y.inb }), .bool false]) ?_ rfl (HF.out false ?_ _ ?_)
                    · exact results_cell2 (p := 2) (u := 3) rfl _ _ w.heap.size 23 (Rc.cells { rcH x0 x1 x2 x3 bq x5 x6 with s7 := z.cl, s8 := z.pt, b9 := z.la, s10 := y.tr, b11 := y.inb }) (0, 0) _ rfl (put12 _ _ _ _ _ _ _ _ _ _ _ _ HP6.out.rz) Tryd.underlying23 rfl rfl
                    · unfold okZ; rw [decide_eq_false HYR.out]; simp
                    · exact below12' HP6.out.bel (Nat.le_refl _) _ _ _ _ _ _ _ _ _ _ _ _
end Go.Proofs.YtokdfdinnaghmaaDoor.Tx
