/- Walks: the file of a batch without records. -/
import Derived.Test.YtobkafkknbdacaaDoorBaW
import Derived.Test.YtobkafkknbdacaaDoorBaY
import Derived.Deep.Cut
import Derived.Deep.CutRange
import Derived.BigRegion
import Derived.Deep.MidRow
namespace Go.Proofs.YtobkafkknbdacaaDoor.Va
open Go.RowKit

/-- A slice of payloads. -/
def PlsP (ps : List (List Int)) (v : Value) (w : World) : Prop := ∃ g us, v = .slice (some ⟨g, 0, none⟩) 3 3 ∧ Pls w (some ⟨g, 0, none⟩) 3 3 us ps
def ypPls (ps : List (List Int)) : YP := ⟨PlsP ps, fun v w w' h hb => by
  obtain ⟨g, us, h1, h2⟩ := h
  exact ⟨g, us, h1, h2.below hb⟩⟩
def ypJoin (B : Nat) (l : List Int) : YP := ⟨fun v w => ∃ u, v = .tuple #[u, .int .i64 0] ∧ Own w B u l, fun v w w' h hb => by
  obtain ⟨u, h1, h2⟩ := h
  exact ⟨u, h1, Own.below h2 hb⟩⟩
theorem pls_lit {w : World} {A1 A3 : Option Addr} {m1 c1 m3 c3 : Nat} {l1 l3 : List Int} (h1 : Byt w A1 m1 c1 l1) (h3 : Byt w A3 m3 c3 l3) :
    Pls (w.alloc (.cells #[.slice A1 m1 c1, .slice none 0 0, .slice A3 m3 c3] 37)) (some ⟨w.heap.size, 0, none⟩) 3 3 [.slice A1 m1 c1, .slice none 0 0, .slice A3 m3 c3] [l1, [], l3] := by
  have hb := below_lit w (.cells #[.slice A1 m1 c1, .slice none 0 0, .slice A3 m3 c3] 37)
  refine ⟨⟨rfl, fun u hu => ?_, .inr ⟨_, rfl, fun j u hu => ⟨by simp, ?_⟩⟩⟩, rfl, fun i hi => ?_⟩
  · simp at hu
    rcases hu with rfl | rfl | rfl <;> simp [Value.oneCell']
  · have h := heap_alloc_new w (.cells #[.slice A1 m1 c1, .slice none 0 0, .slice A3 m3 c3] 37)
    rw [add_none, Nat.zero_add]
    simp only [World.cell?, h]
    simpa using hu
  · have hc : i = 0 ∨ i = 1 ∨ i = 2 := by omega
    rcases hc with rfl | rfl | rfl
    · exact ⟨_, _, _, _, rfl, rfl, h1.below hb⟩
    · exact ⟨_, _, _, _, rfl, rfl, byt_nil _⟩
    · exact ⟨_, _, _, _, rfl, rfl, h3.below hb⟩
def wrT (b B : Nat) : List YP := [.val (.agg #[.int .i64 1, .int .i64 1, .int .i64 1, .slice none 0 0]), .val (.agg #[.int .i64 1, .int .i64 1, .int .i64 1, .int .i64 0]), .own B [2, 2, 2, 0], .val (.agg #[.int .i64 1, .int .i64 1, .int .i64 1, .slice none 0 0]), .val (.slice none 0 0), .val (.pointer (some ⟨b, 3, none⟩)), .val (.slice none 0 0), .val (.agg #[.int .i64 0, .int .i64 0, .int .i64 0, .int .i64 0, .int .i64 0, .int .i64 0]), .own B [0, 0, 0, 0, 0], ypPls [[2, 2, 2, 0], [], [0, 0, 0, 0, 0]], ypJoin B (joinE [[2, 2, 2, 0], [], [0, 0, 0, 0, 0]]), .own B (joinE [[2, 2, 2, 0], [], [0, 0, 0, 0, 0]]), .val (.int .i64 0), .own B (joinE [[2, 2, 2, 0], [], [0, 0, 0, 0, 0]])]
theorem own_grow {f : FuncId} {args : Array Value} {w : World} {B : Nat} {l : List Int} (hB : B ≤ w.heap.size) (h : Calls Tryd.prog f args w (Gives w w.heap.size l)) :
    Calls Tryd.prog f args w fun e w' => ∃ v, e = .returned v ∧ (YP.own B l).holds v w' ∧ Below w.heap.size w w' := h.mono fun e w' hh => by
  obtain ⟨v, h1, h2, h3⟩ := hh
  exact ⟨v, h1, ⟨own_mono h2.1 hB, h2.2⟩, h3⟩
theorem val_grow {f : FuncId} {args : Array Value} {w : World} {u : Value} (h : Calls Tryd.prog f args w fun e w' => e = .returned u ∧ Below w.heap.size w w') :
    Calls Tryd.prog f args w fun e w' => ∃ v, e = .returned v ∧ (YP.val u).holds v w' ∧ Below w.heap.size w w' := h.mono fun e w' hh => ⟨u, hh.1, rfl, hh.2⟩
theorem numE_1 : numE 1 = [2] := grp_small (by decide)
theorem numE_0 : numE 0 = [0] := grp_small (by decide)
theorem numE_4 : numE 4 = [8] := grp_small (by decide)
theorem numE_5 : numE 5 = [10] := grp_small (by decide)
theorem l1 : listE [1, 1, 1, 0] = [2, 2, 2, 0] := by simp [listE, numE_1, numE_0]
theorem l3 : listE [0, 0, 0, 0, 0] = [0, 0, 0, 0, 0] := by simp [listE, numE_0]
theorem fil_is : joinE [[2, 2, 2, 0], [], [0, 0, 0, 0, 0]] = 8 :: (be4 (fnv [2, 2, 2, 0]) ++ (2 :: 2 :: 2 :: 0 :: 0 :: (be4 (fnv []) ++ (10 :: (be4 (fnv [0, 0, 0, 0, 0]) ++ [0, 0, 0, 0, 0]))))) := by
  simp [joinE, frm, numE_4, numE_5, numE_0]
theorem fil_len : (joinE [[2, 2, 2, 0], [], [0, 0, 0, 0, 0]]).length = 24 := by
  rw [fil_is]
  simp [be4]
theorem fits3 : ([[2, 2, 2, 0], [], [0, 0, 0, 0, 0]] : List (List Int)).all fits = true := by decide
set_option maxRecDepth 100000 in
set_option maxHeartbeats 8000000 in
theorem write_nil (w : World) :
    Calls Tryd.prog 11 #[.agg #[.int .i64 1, .int .i64 1, .int .i64 1, .slice none 0 0]] w fun e w' => ∃ v, e = .returned (.tuple #[v, .int .i64 0]) ∧ Own w' w.heap.size v (joinE [[2, 2, 2, 0], [], [0, 0, 0, 0, 0]]) ∧ Below w.heap.size w w' := by
  obtain ⟨b, hb⟩ : ∃ b, w.heap.size = b := ⟨_, rfl⟩
  obtain ⟨L, hL⟩ : ∃ L, w.alloc (.cells #[.int .i64 1, .int .i64 1, .int .i64 1, .slice none 0 0] 31) = L := ⟨_, rfl⟩
  have hbl : Blk L b 31 #[.int .i64 1, .int .i64 1, .int .i64 1, .slice none 0 0] := hL ▸ hb ▸ Blk.new w _ _
  have e0 := hbl.cell 0; have e1 := hbl.cell 1; have e2 := hbl.cell 2; have e3 := hbl.cell 3
  simp at e0 e1 e2 e3
  have HB := Lib.hid (show Below w.heap.size w L from hL ▸ below_lit w _)
  have HBL := Lib.hid hbl
  have HBS : Hid (w.heap.size = b) := Lib.hid hb
  have HCK := Lib.hid (fun W => bchk_any (w := W) (A := none) (m := 0) (c := 0) (l := []) 1 1 1 RecR.nil rfl (by decide) (fun r hr => by cases hr))
  simp only [show bkE 1 1 1 [] = 0 by decide] at HCK
  clear hbl
  go_enter Tryd.func11, Tryd.ntmps11
  go_upto_region 4 with (go_at_call 9; (with_reducible refine (HCK.out _).mono ?_); rintro e w1 ⟨rfl, hb1⟩; have HB1 := Lib.hid hb1; clear hb1)
  have HB2 := Lib.hid (HB.out.trans (HB1.out.mono HB.out.size))
  have HX1 := Lib.hid (HBL.out.below HB1.out HBL.out.lt)
  have HXC : Hid (∀ W, Below w1.heap.size w1 W → W.cell? ⟨b, 0, none⟩ = some (.int .i64 1) ∧ W.cell? ⟨b, 1, none⟩ = some (.int .i64 1) ∧ W.cell? ⟨b, 2, none⟩ = some (.int .i64 1) ∧ W.cell? ⟨b, 3, none⟩ = some (.slice none 0 0)) := Lib.hid (fun W h => by
    have hh := HX1.out.below h HX1.out.lt
    exact ⟨hh.cell 0, hh.cell 1, hh.cell 2, hh.cell 3⟩)
  clear e0 e1 e2 e3
  go_cut [2, 3] from 4 to 22 (fun s2 s3 wx => s3 = .int .i64 0 ∧ Own wx w1.heap.size s2 (joinE [[2, 2, 2, 0], [], [0, 0, 0, 0, 0]]) ∧ Below w1.heap.size w1 wx)
  case first =>
    rename_i hJ hK
    refine wp_region_stable (I := fun w' => Below w1.heap.size w1 w') (Y := fun i v w' => ((wrT b w1.heap.size).getD i .any).holds v w') (n := 14) (ol := _) (by kernel_rfl) (fit_of (ol := _) (by kernel_rfl) rfl rfl) (show 23 ≤ 1000000 by decide) ?qI ?qS ?qE
    case qI => exact (Below.refl _ _).drew
    case qS =>
      intro i o hi ho listed a wx hA hd
      have hI := hA.inv
      have t1 : a.tmps[1]?.getD undef = .pointer (some ⟨b, 0, none⟩) := by rw [← Array.getD_eq_getD_getElem?]; exact hA.same 1 (by kernel_rfl)
      obtain ⟨k0, k1, k2, k3⟩ := HXC.out wx hI
      have hcs : i = 0 ∨ i = 1 ∨ i = 2 ∨ i = 3 ∨ i = 4 ∨ i = 5 ∨ i = 6 ∨ i = 7 ∨ i = 8 ∨ i = 9 ∨ i = 10 ∨ i = 11 ∨ i = 12 ∨ i = 13 := by omega
      rcases hcs with rfl | rfl | rfl | rfl | rfl | rfl | rfl | rfl | rfl | rfl | rfl | rfl | rfl | rfl
      · obtain rfl := Option.some.inj ho
        exact step_val (v := .agg #[.int .i64 1, .int .i64 1, .int .i64 1, .slice none 0 0]) (by simp [go_sem, t1, k0, k1, k2, k3]) hI rfl
      · obtain rfl := Option.some.inj ho
        have d0 : a.tmps[10]?.getD undef = .agg #[.int .i64 1, .int .i64 1, .int .i64 1, .slice none 0 0] := by rw [← Array.getD_eq_getD_getElem?]; exact hd { on := 0, ground := .data } (by simp) rfl
        exact step_call (f := 14) (args := #[.agg #[.int .i64 1, .int .i64 1, .int .i64 1, .slice none 0 0]]) (by simp [go_sem, d0]) (yp_call (T := wrT b w1.heap.size) (k := .val (.agg #[.int .i64 1, .int .i64 1, .int .i64 1, .int .i64 0])) rfl hI (val_grow (head_any 1 1 1 none 0 0 wx)))
      · obtain rfl := Option.some.inj ho
        have d1 : a.tmps[11]?.getD undef = .agg #[.int .i64 1, .int .i64 1, .int .i64 1, .int .i64 0] := by rw [← Array.getD_eq_getD_getElem?]; exact hd { on := 1, ground := .data } (by simp) rfl
        exact step_call (f := 19) (args := #[.agg #[.int .i64 1, .int .i64 1, .int .i64 1, .int .i64 0]]) (by simp [go_sem, d1]) (yp_call (T := wrT b w1.heap.size) (k := .own w1.heap.size [2, 2, 2, 0]) rfl hI (own_grow hI.size (l1 ▸ writeHead_any 1 1 1 0 (by decide) wx)))
      · obtain rfl := Option.some.inj ho
        exact step_val (v := .agg #[.int .i64 1, .int .i64 1, .int .i64 1, .slice none 0 0]) (by simp [go_sem, t1, k0, k1, k2, k3]) hI rfl
      · obtain rfl := Option.some.inj ho
        have d3 : a.tmps[13]?.getD undef = .agg #[.int .i64 1, .int .i64 1, .int .i64 1, .slice none 0 0] := by rw [← Array.getD_eq_getD_getElem?]; exact hd { on := 3, ground := .data } (by simp) rfl
        exact step_call (f := 20) (args := #[.agg #[.int .i64 1, .int .i64 1, .int .i64 1, .slice none 0 0]]) (by simp [go_sem, d3]) (yp_call (T := wrT b w1.heap.size) (k := .val (.slice none 0 0)) rfl hI (val_grow (writeNil_any 1 1 wx)))
      · obtain rfl := Option.some.inj ho
        exact step_val (v := .pointer (some ⟨b, 3, none⟩)) (by simp [go_sem, t1]) hI rfl
      · obtain rfl := Option.some.inj ho
        have d5 : a.tmps[15]?.getD undef = .pointer (some ⟨b, 3, none⟩) := by rw [← Array.getD_eq_getD_getElem?]; exact hd { on := 5, ground := .data } (by simp) rfl
        exact step_val (v := .slice none 0 0) (by simp [go_sem, d5, k3]) hI rfl
      · obtain rfl := Option.some.inj ho
        have d6 : a.tmps[16]?.getD undef = .slice none 0 0 := by rw [← Array.getD_eq_getD_getElem?]; exact hd { on := 6, ground := .data } (by simp) rfl
        exact step_call (f := 7) (args := #[.slice none 0 0]) (by simp [go_sem, d6]) (yp_call (T := wrT b w1.heap.size) (k := .val (.agg #[.int .i64 0, .int .i64 0, .int .i64 0, .int .i64 0, .int .i64 0, .int .i64 0])) rfl hI (val_grow (totals_any (w := wx) (l := []) RecR.nil rfl (by decide))))
      · obtain rfl := Option.some.inj ho
        have d7 : a.tmps[17]?.getD undef = .agg #[.int .i64 0, .int .i64 0, .int .i64 0, .int .i64 0, .int .i64 0, .int .i64 0] := by rw [← Array.getD_eq_getD_getElem?]; exact hd { on := 7, ground := .data } (by simp) rfl
        exact step_call (f := 21) (args := #[.agg #[.int .i64 0, .int .i64 0, .int .i64 0, .int .i64 0, .int .i64 0, .int .i64 0]]) (by simp [go_sem, d7]) (yp_call (T := wrT b w1.heap.size) (k := .own w1.heap.size [0, 0, 0, 0, 0]) rfl hI (own_grow hI.size (l3 ▸ writeTotals_zero wx)))
      · obtain rfl := Option.some.inj ho
        have d2 : Own wx w1.heap.size (a.tmps[12]?.getD undef) [2, 2, 2, 0] := by rw [← Array.getD_eq_getD_getElem?]; exact hd { on := 2, ground := .data } (by simp) rfl
        have d4 : a.tmps[14]?.getD undef = .slice none 0 0 := by rw [← Array.getD_eq_getD_getElem?]; exact hd { on := 4, ground := .data } (by simp) rfl
        have d8 : Own wx w1.heap.size (a.tmps[18]?.getD undef) [0, 0, 0, 0, 0] := by rw [← Array.getD_eq_getD_getElem?]; exact hd { on := 8, ground := .data } (by simp) rfl
        obtain ⟨A2, m2, c2, e2, -, y2⟩ := d2.bytm
        obtain ⟨A8, m8, c8, e8, -, y8⟩ := d8.bytm
        exact yp_new (T := wrT b w1.heap.size) (k := ypPls [[2, 2, 2, 0], [], [0, 0, 0, 0, 0]]) (w' := wx.alloc (.cells #[.slice A2 m2 c2, .slice none 0 0, .slice A8 m8 c8] 37)) (v := .slice (some ⟨wx.heap.size, 0, none⟩) 3 3) rfl (by simp [go_sem, e2, d4, e8]) hI (below_lit _ _) ⟨_, _, rfl, pls_lit y2 y8⟩
      · obtain rfl := Option.some.inj ho
        obtain ⟨g9, us, h9, q9⟩ := (show PlsP [[2, 2, 2, 0], [], [0, 0, 0, 0, 0]] (gotAt _ a 9) wx from hd { on := 9, ground := .data } (by simp) rfl)
        have d9 : a.tmps[19]?.getD undef = .slice (some ⟨g9, 0, none⟩) 3 3 := by rw [← Array.getD_eq_getD_getElem?]; exact h9
        exact step_call (f := 18) (args := #[.slice (some ⟨g9, 0, none⟩) 3 3]) (by simp [go_sem, d9]) (yp_call (T := wrT b w1.heap.size) (k := ypJoin w1.heap.size (joinE [[2, 2, 2, 0], [], [0, 0, 0, 0, 0]])) rfl hI ((join_all q9 (by decide) (by rw [fil_len]; decide)).mono fun e w' hh => by
          obtain ⟨hj, hbj⟩ := hh
          rw [if_pos fits3] at hj
          obtain ⟨v, hv, ho⟩ := hj
          exact ⟨_, hv, ⟨v, rfl, own_mono ho.1 hI.size, ho.2⟩, hbj⟩))
      · obtain rfl := Option.some.inj ho
        obtain ⟨u, h10, q10⟩ := (show ∃ u, gotAt _ a 10 = .tuple #[u, .int .i64 0] ∧ Own wx w1.heap.size u (joinE [[2, 2, 2, 0], [], [0, 0, 0, 0, 0]]) from hd { on := 10, ground := .data } (by simp) rfl)
        have d10 : a.tmps[20]?.getD undef = .tuple #[u, .int .i64 0] := by rw [← Array.getD_eq_getD_getElem?]; exact h10
        exact step_val (v := u) (by simp [go_sem, d10]) hI q10
      · obtain rfl := Option.some.inj ho
        obtain ⟨u, h10, q10⟩ := (show ∃ u, gotAt _ a 10 = .tuple #[u, .int .i64 0] ∧ Own wx w1.heap.size u (joinE [[2, 2, 2, 0], [], [0, 0, 0, 0, 0]]) from hd { on := 10, ground := .data } (by simp) rfl)
        have d10 : a.tmps[20]?.getD undef = .tuple #[u, .int .i64 0] := by rw [← Array.getD_eq_getD_getElem?]; exact h10
        exact step_val (v := .int .i64 0) (by simp [go_sem, d10]) hI rfl
      · obtain rfl := Option.some.inj ho
        have d11 : Own wx w1.heap.size (a.tmps[21]?.getD undef) (joinE [[2, 2, 2, 0], [], [0, 0, 0, 0, 0]]) := by rw [← Array.getD_eq_getD_getElem?]; exact hd { on := 11, ground := .data } (by simp) rfl
        exact step_val (v := a.tmps[21]?.getD undef) (by simp [go_sem]) hI d11
    case qE =>
      intro listed a wx hA hY
      have hI := hA.inv
      have hs2 : Own wx w1.heap.size (a.eval (.tmp 2)) (joinE [[2, 2, 2, 0], [], [0, 0, 0, 0, 0]]) := hY 13 (by decide)
      have h22 : a.eval (.tmp 22) = .int .i64 0 := hY 12 (by decide)
      have p22 : a.tmps[22]?.getD undef = .int .i64 0 := by rw [← Array.getD_eq_getD_getElem?]; exact h22
      have hdf : a.defers = [] := hA.defers
      have hl : a.tmps.size = 23 := hA.size
      have fs0 := hA.same 0 (by kernel_rfl)
      have fs1 := hA.same 1 (by kernel_rfl)
      have fs2 : Own wx w1.heap.size (a.tmps.getD 2 undef) (joinE [[2, 2, 2, 0], [], [0, 0, 0, 0, 0]]) := hs2
      unfold Oper.wp
      have hrun : ∀ o : Oper, o.op = .assign (.tmp 22) → (execOp a.eval o).run Tryd.prog wx = .ok (.value (.int .i64 0)) wx := fun o ho => by
        simp [execOp, ho, go_sem, p22]
      rw [hrun _ rfl]
      clear hA hY hrun p22 h22 hs2
      obtain ⟨⟨ll⟩, df⟩ := a
      simp only at hdf
      subst hdf
      replace hl : ll.length = 22 + 1 := hl
      obtain ⟨x0, l0, e0, h0⟩ := lit_succ (n := 22) hl
      subst e0
      obtain ⟨x1, l1, e1, h1⟩ := lit_succ (n := 21) h0
      subst e1
      obtain ⟨x2, l2, e2, h2⟩ := lit_succ (n := 20) h1
      subst e2
      obtain ⟨x3, l3, e3, h3⟩ := lit_succ (n := 19) h2
      subst e3
      obtain ⟨x4, l4, e4, h4⟩ := lit_succ (n := 18) h3
      subst e4
      obtain ⟨x5, l5, e5, h5⟩ := lit_succ (n := 17) h4
      subst e5
      obtain ⟨x6, l6, e6, h6⟩ := lit_succ (n := 16) h5
      subst e6
      obtain ⟨x7, l7, e7, h7⟩ := lit_succ (n := 15) h6
      subst e7
      obtain ⟨x8, l8, e8, h8⟩ := lit_succ (n := 14) h7
      subst e8
      obtain ⟨x9, l9, e9, h9⟩ := lit_succ (n := 13) h8
      subst e9
      obtain ⟨x10, l10, e10, h10⟩ := lit_succ (n := 12) h9
      subst e10
      obtain ⟨x11, l11, e11, h11⟩ := lit_succ (n := 11) h10
      subst e11
      obtain ⟨x12, l12, e12, h12⟩ := lit_succ (n := 10) h11
      subst e12
      obtain ⟨x13, l13, e13, h13⟩ := lit_succ (n := 9) h12
      subst e13
      obtain ⟨x14, l14, e14, h14⟩ := lit_succ (n := 8) h13
      subst e14
      obtain ⟨x15, l15, e15, h15⟩ := lit_succ (n := 7) h14
      subst e15
      obtain ⟨x16, l16, e16, h16⟩ := lit_succ (n := 6) h15
      subst e16
      obtain ⟨x17, l17, e17, h17⟩ := lit_succ (n := 5) h16
      subst e17
      obtain ⟨x18, l18, e18, h18⟩ := lit_succ (n := 4) h17
      subst e18
      obtain ⟨x19, l19, e19, h19⟩ := lit_succ (n := 3) h18
      subst e19
      obtain ⟨x20, l20, e20, h20⟩ := lit_succ (n := 2) h19
      subst e20
      obtain ⟨x21, l21, e21, h21⟩ := lit_succ (n := 1) h20
      subst e21
      obtain ⟨x22, l22, e22, h22⟩ := lit_succ (n := 0) h21
      subst e22
      obtain rfl := List.length_eq_zero_iff.1 h22
      replace fs0 : x0 = .agg #[.int .i64 1, .int .i64 1, .int .i64 1, .slice none 0 0] := fs0
      replace fs1 : x1 = .pointer (some ⟨b, 0, none⟩) := fs1
      replace fs2 : Own wx w1.heap.size x2 (joinE [[2, 2, 2, 0], [], [0, 0, 0, 0, 0]]) := fs2
      subst fs0 fs1
      refine hK { tmps := #[.agg #[.int .i64 1, .int .i64 1, .int .i64 1, .slice none 0 0], .pointer (some ⟨b, 0, none⟩), x2, .int .i64 0, x4, x5, x6, x7, x8, x9, x10, x11, x12, x13, x14, x15, x16, x17, x18, x19, x20, x21, x22], defers := [] } _ ?_
      go_meet
      case rel => exact ⟨rfl, fs2, hI⟩
  case rest =>
    obtain ⟨rfl, ho, hb2⟩ := hcut
    have HO := Lib.hid ho; have HB3 := Lib.hid hb2
    clear ho hb2
    go_wp2
    go_ret2
    have hf := HB2.out.trans (HB3.out.mono (HBS.out ▸ HB2.out.size))
    exact ⟨_, rfl, ⟨own_mono HO.out.1 HB2.out.size, HO.out.2⟩, hf⟩
end Go.Proofs.YtobkafkknbdacaaDoor.Va
