/- Walk: the elements of a valid record. -/
import Derived.Test.YtinnmnhaeejfdaaTgFldM
import Derived.Deep.Cut
import Derived.Deep.CutRange
namespace Go.Proofs.Ytinnmnhaeejfdaa
open Go.RowKit

/-- What an operation of a drawn region has yielded. -/
inductive Yk where
  | val (v : Value)
  | own (l : List Int)
  | agg (ls : List (List Int))
  | slot (t : TypeId) (Z : Array Value)
  | any
def Yk.Holds (B : Nat) : Yk → Value → World → Prop
  | .val u, v, _ => v = u
  | .own l, v, w => Own w B v l
  | .agg ls, v, w => ∃ us, v = .agg (List.toArray us) ∧ LieV w B ls us
  | .slot t Z, v, w => ∃ g, v = .pointer (some ⟨g, 0, none⟩) ∧ B ≤ g ∧ w.heap[g]? = some (.cells Z t (0, 0))
  | .any, _, _ => True
theorem heap_lt {w : World} {g : Nat} {o : Obj} (h : w.heap[g]? = some o) : g < w.heap.size := (Array.getElem?_eq_some_iff.1 h).1
theorem Yk.below {B : Nat} {k : Yk} {v : Value} {w w' : World} (h : k.Holds B v w) (hb : Below w.heap.size w w') : k.Holds B v w' := by
  cases k with
  | val u => exact h
  | own l => exact Own.below h hb
  | agg ls => obtain ⟨us, h1, h2⟩ := h; exact ⟨us, h1, h2.below hb⟩
  | slot t Z => obtain ⟨g, h1, h2, h3⟩ := h; exact ⟨g, h1, h2, by rw [hb.block g (heap_lt h3)]; exact h3⟩
  | any => trivial
/-- What the operations of the region yield. -/
def fldT (r : Rc) (b : Nat) : List Yk := [.val (.pointer (some ⟨b, 2, none⟩)), .val (.int .i64 r.s2), .own (shE r.s2.toNat), .val (.pointer (some ⟨b, 0, none⟩)), .val (.int .i64 r.s0), .own (shE r.s0.toNat), .val (.pointer (some ⟨b, 1, none⟩)), .val (.int .i64 r.s1), .own (shE r.s1.toNat), .own (pkE r.sa), .own (pkE r.sb), .val (.pointer (some ⟨b, 5, none⟩)), .val (.int .i64 r.s5), .own (shE r.s5.toNat), .val (.pointer (some ⟨b, 6, none⟩)), .val (.int .i64 r.s6), .own (shE r.s6.toNat), .val (.pointer (some ⟨b, 7, none⟩)), .val (.int .i64 r.s7), .own (shE r.s7.toNat), .val (.pointer (some ⟨b, 8, none⟩)), .val (.int .i64 r.s8), .own (shE r.s8.toNat), .val (.pointer (some ⟨b, 10, none⟩)), .val (.int .i64 r.s10), .own (shE r.s10.toNat), .val (.agg r.cells), .val (.int .i64 (flg r)), .own (shE (flg r)), .agg (valsE r), .slot 70 Z12]
theorem tab_at {l : List Yk} {B i : Nat} {v : Value} {w : World} {k : Yk} (h : l[i]? = some k) (hk : k.Holds B v w) : (l.getD i .any).Holds B v w := by
  rw [List.getD_eq_getElem?_getD, h]; exact hk
theorem call_own {B : Nat} {l : List Int} {f : FuncId} {args : Array Value} {w L : World} {T : List Yk} {i : Nat} (hT : T[i]? = some (.own l)) (hI : Below L.heap.size L w) (hB : B ≤ L.heap.size)
    (hc : Calls Try.prog f args w fun e w' => ∃ v, e = .returned v ∧ Own w' w.heap.size v l ∧ Below w.heap.size w w') :
    Calls Try.prog f args w fun e w' => ∃ v, e = .returned v ∧ Below L.heap.size L w' ∧ (∀ j u, (T.getD j .any).Holds B u w → (T.getD j .any).Holds B u w') ∧ (T.getD i .any).Holds B v w' := by
  refine hc.mono fun e w' => ?_
  rintro ⟨v, rfl, ho, hb⟩
  exact ⟨v, rfl, hI.trans (hb.mono hI.size), fun j u h => Yk.below h hb, tab_at hT (ho.mono (Nat.le_trans hB hI.size))⟩
theorem call_val {B : Nat} {x : Value} {f : FuncId} {args : Array Value} {w L : World} {T : List Yk} {i : Nat} (hT : T[i]? = some (.val x)) (hI : Below L.heap.size L w) (hB : B ≤ L.heap.size)
    (hc : Calls Try.prog f args w fun e w' => e = .returned x ∧ Below w.heap.size w w') :
    Calls Try.prog f args w fun e w' => ∃ v, e = .returned v ∧ Below L.heap.size L w' ∧ (∀ j u, (T.getD j .any).Holds B u w → (T.getD j .any).Holds B u w') ∧ (T.getD i .any).Holds B v w' := by
  refine hc.mono fun e w' => ?_
  rintro ⟨rfl, hb⟩
  exact ⟨x, rfl, hI.trans (hb.mono hI.size), fun j u h => Yk.below h hb, tab_at hT rfl⟩
theorem info_parts8 : ∃ i, Try.prog.info? 25 = some i ∧ i.size = 1 := by
  have h : (Try.prog.info? 25).map (·.size) = some 1 := by kernel_rfl
  cases hi : Try.prog.info? 25 with
  | none => rw [hi] at h; cases h
  | some i => rw [hi] at h; exact ⟨i, rfl, by simpa using h⟩
/-- Elements that a call has made: the list is the call's own from 'base' on, the values lie from 'lo' on. -/
def FoundG (w : World) (lo base : Nat) (v : Value) (es : List El) : Prop :=
  ∃ vs : List Value, w.ownsRow base 47 2 v es.length vs ∧ (∀ u ∈ vs, u.oneCell' = true) ∧ ∀ (i : Nat) (e : El), es[i]? = some e → ∃ A m d, vs[i * 2]? = some (.int .i64 e.1) ∧ vs[i * 2 + 1]? = some (Value.slice A m d) ∧ Byt w A m d e.2 ∧ ∀ x, A = some x → e.2 ≠ [] → v.ownBlock ≠ some x.block ∧ lo ≤ x.block
theorem FoundG.mono {w : World} {lo lo' b b' : Nat} {v : Value} {es : List El} (h : FoundG w lo b v es) (hl : lo' ≤ lo) (hb : b' ≤ b) : FoundG w lo' b' v es := by
  obtain ⟨vs, h1, h2, h3⟩ := h
  refine ⟨vs, own_mono h1 hb, h2, fun i e hi => ?_⟩
  obtain ⟨A, m, d, g1, g2, g3, g4⟩ := h3 i e hi
  exact ⟨A, m, d, g1, g2, g3, fun x hx hne => ⟨(g4 x hx hne).1, Nat.le_trans hl (g4 x hx hne).2⟩⟩
theorem FoundG.below {w w' : World} {lo base : Nat} {v : Value} {es : List El} (h : FoundG w lo base v es) (hb : Below w.heap.size w w') : FoundG w' lo base v es := by
  obtain ⟨vs, h1, h2, h3⟩ := h
  refine ⟨vs, row_keep2 h1 hb, h2, fun i e hi => ?_⟩
  obtain ⟨A, m, d, g1, g2, g3, g4⟩ := h3 i e hi
  exact ⟨A, m, d, g1, g2, g3.below hb, g4⟩
/-- They can be read, apart from a row that is older or younger. -/
theorem FoundG.els {w : World} {lo base : Nat} {v : Value} {es : List El} (h : FoundG w lo base v es) {row : Option Nat} (hr : ∀ g, row = some g → (g < lo ∧ g < base) ∨ w.heap.size ≤ g) : ∃ A c, v = .slice A es.length c ∧ Els w A es.length es row := by
  obtain ⟨vs, h1, h2, h3⟩ := h
  have hvl : vs.length = es.length * 2 := h1.1
  rcases h1.2 with ⟨rfl, h0⟩ | ⟨g, cap, cur, rfl, hb, hg, hnc, hcm, hcs, htake⟩
  · have he : es = [] := List.length_eq_zero_iff.1 h0
    subst he
    exact ⟨none, 0, rfl, rfl, fun k e hk => by simp at hk⟩
  · refine ⟨some ⟨g, 0, none⟩, cap, rfl, rfl, fun k e hk => ?_⟩
    obtain ⟨A, m, d, g0, g1, g2, g3⟩ := h3 k e hk
    have hcells := h1.cells (g := g) rfl
    have c0 := hcells _ _ g0
    have c1 := hcells _ _ g1
    rw [add_none, Nat.zero_add] at c0 c1
    rw [← Nat.zero_add (k * 2)] at c0 c1
    have hgs := (h1.lt g rfl).2
    refine ⟨g, 0, A, m, d, rfl, hgs, fun e' => ?_, c0, by rw [Nat.add_assoc] at c1 ⊢; exact c1, g2, fun x hx hne e' => ?_⟩
    · rcases hr g e' with h | h <;> omega
    · have h5 := g2.in x hx hne
      have h6 := (g3 x hx hne).2
      rcases hr x.block e' with h | h <;> omega
theorem index_arr {us : List Value} {k : Nat} {A : Option Addr} {m c : Nat} {W : World} (hu : us[k]? = some (.slice A m c)) (hk : k < 12) : (Instr.index 70 (.agg us.toArray) (.int .i64 (k : Int))).run Try.prog W = .ok (.slice A m c) W := by
  have h1 : (0 : Int) ≤ (k : Int) ∧ (k : Int) < ((12 : Nat) : Int) := by omega
  have hi := info_parts8
  obtain ⟨i0, hi0, hz1⟩ := hi
  have hg : isAgg 25 = isAgg 25 := rfl
  simp [Instr.index, run_underlying Try.underlying70, asIntOf, h1, go_sem, sizeOf, typeInfo, hi0, hz1, part, isAgg, run_underlying Try.underlying25, hu]
  omega
/-- One element more, whose bytes lie below the list's base. -/
theorem FoundG.more2 {wr w3 : World} {lo base : Nat} {v : Value} {es : List El} {t : Int} {l : List Int} {A : Option Addr} {m d g c : Nat} {vs : List Value}
    (hvs : wr.ownsRow base 47 2 v es.length vs) (h1 : ∀ u ∈ vs, u.oneCell' = true) (hpay : ∀ (i : Nat) (e : El), es[i]? = some e → ∃ A m d, vs[i * 2]? = some (.int .i64 e.1) ∧ vs[i * 2 + 1]? = some (Value.slice A m d) ∧ Byt wr A m d e.2 ∧ ∀ x, A = some x → e.2 ≠ [] → v.ownBlock ≠ some x.block ∧ lo ≤ x.block)
    (hy : Byt wr A m d l) (hfar : ∀ x, A = some x → l ≠ [] → lo ≤ x.block ∧ x.block < base) (hbs : base ≤ wr.heap.size)
    (o : Obj) (hown : w3.ownsRow base 47 2 (.slice (some ⟨g, 0, none⟩) (es.length + 1) c) (es.length + 1) (vs ++ [.int .i64 t, .slice A m d])) (hg : (wr.alloc o).grownBy w3 v.ownBlock) (hlie : v.ownBlock = some g ∨ g = wr.heap.size + 1) :
    FoundG w3 lo base (.slice (some ⟨g, 0, none⟩) (es.length + 1) c) (es ++ [(t, l)]) := by
  have hvl : vs.length = es.length * 2 := hvs.1
  refine ⟨vs ++ [.int .i64 t, .slice A m d], by rw [List.length_append]; exact hown, ?_, ?_⟩
  · intro u hu
    rcases List.mem_append.1 hu with h | h
    · exact h1 u h
    · simp at h; rcases h with rfl | rfl <;> rfl
  · intro i q hq
    rcases Nat.lt_or_ge i es.length with hi | hi
    · rw [List.getElem?_append_left hi] at hq
      obtain ⟨B, k, e, g0, g1, g2, g3⟩ := hpay i q hq
      refine ⟨B, k, e, by rw [List.getElem?_append_left (by omega)]; exact g0, by rw [List.getElem?_append_left (by omega)]; exact g1, ?_, ?_⟩
      · exact (g2.below ((Below.refl _ _).alloc (Nat.le_refl _) o)).grown hg (fun x hx hne => (g3 x hx hne).1)
      · intro x hx hne
        refine ⟨fun h => ?_, (g3 x hx hne).2⟩
        have h5 := g2.in x hx hne
        have h7 : g = x.block := Option.some.inj h
        rcases hlie with h8 | h8
        · exact (g3 x hx hne).1 (by rw [h8, h7])
        · omega
    · obtain rfl : i = es.length := by
        have := (List.getElem?_eq_some_iff.1 hq).1
        rw [List.length_append] at this; simp at this; omega
      rw [List.getElem?_append_right (Nat.le_refl _), Nat.sub_self] at hq
      simp at hq
      subst hq
      refine ⟨A, m, d, by rw [List.getElem?_append_right (by omega), hvl]; simp, by rw [List.getElem?_append_right (by omega), hvl, show es.length * 2 + 1 - es.length * 2 = 1 by omega]; rfl, ?_, ?_⟩
      · exact (hy.below ((Below.refl _ _).alloc (Nat.le_refl _) o)).grown hg (fun x hx hne h => by
          have h5 := (hfar x hx hne).2
          have h6 := (hvs.lt _ h).1; omega)
      · intro x hx hne
        have h5 := hfar x hx hne
        refine ⟨fun h => ?_, h5.1⟩
        have h7 : g = x.block := Option.some.inj h
        rcases hlie with h8 | h8
        · have h6 := (hvs.lt _ h8).1; omega
        · omega
theorem flg_small (r : Rc) : flg r ≤ 3 := by unfold flg; split <;> split <;> omega
set_option maxRecDepth 100000 in
set_option maxHeartbeats 16000000 in
theorem fieldsV_any (r : Rc) (hr : r.Small) (w : World) : Calls Try.prog 27 #[.agg r.cells] w fun e w' => ∃ v, e = .returned v ∧ FoundG w' w.heap.size w.heap.size v (fldE r) ∧ Below w.heap.size w w' := by
  obtain ⟨L, hL, hL0, hx, hLs⟩ := rec_world w r
  have HR := Lib.hid hr; have HX := Lib.hid hx; have HL0 := Lib.hid hL0; have HLS := Lib.hid hLs
  obtain ⟨-, -, -, k3, k4, -⟩ := hx.cells
  have mA : r.sa.size ≤ maxLen := by have := hr.la; unfold maxLen; omega
  have mB : r.sb.size ≤ maxLen := by have := hr.lb; unfold maxLen; omega
  unfold Rc.cells at hL ⊢
  clear hr hx hL0 hLs
  go_enter Try.func27, Try.ntmps27
  go_upto_region 3 with (first
    | (go_at_call 40; with_reducible refine (pack_any r.sa _ mA).mono ?_; rintro e w1 ⟨v1, er1, rfl, ho1, hb1⟩; have HO1 := Lib.hid ho1; have HB1 := Lib.hid hb1; have k4 := (hb1.cell (p := ⟨w.heap.size, 4, none⟩) (by have := HLS.out; show w.heap.size < _; omega)).trans k4; clear ho1 hb1)
    | (go_at_call 40; with_reducible refine (pack_any r.sb _ mB).mono ?_; rintro e w2 ⟨v2, er2, rfl, ho2, hb2⟩; have HB2 := Lib.hid (HB1.out.trans (hb2.mono HB1.out.size)); have HO1 := Lib.hid (HO1.out.below hb2); have HO2 := Lib.hid (ho2.mono HB1.out.size); clear ho2 hb2))
  clear k3 k4
  go_cut [7] from 11 to 68 (fun s7 wc => ArrP (valsE r) L wc s7)
  case first =>
    rename_i hJ hK

    refine wp_region_stable (I := fun w' => Below w2.heap.size w2 w') (Y := fun i v w' => ((fldT r w.heap.size).getD i .any).Holds L.heap.size v w') (n := 31) (ol := _) (by kernel_rfl) (fit_of (ol := _) (by kernel_rfl) rfl rfl) (show 69 ≤ 1000000 by decide) ?qI ?qS ?qE
    case qI => exact (Below.refl _ _).drew
    case qS =>
      intro i o hi ho listed a wx hA hd
      have hI := hA.inv
      have hL2 := HB2.out.size
      have hLx := HB2.out.trans (hI.mono hL2)
      have t1 : a.tmps[1]?.getD undef = .pointer (some ⟨w.heap.size, 0, none⟩) := by rw [← Array.getD_eq_getD_getElem?]; exact hA.same 1 (by kernel_rfl)
      have t3 : a.tmps[3]?.getD undef = v1 := by rw [← Array.getD_eq_getD_getElem?]; exact hA.same 3 (by kernel_rfl)
      have t5 : a.tmps[5]?.getD undef = v2 := by rw [← Array.getD_eq_getD_getElem?]; exact hA.same 5 (by kernel_rfl)
      have hX := HX.out.below hLx (by have := HLS.out; omega)
      obtain ⟨k0, k1, k2, k3, k4, k5, k6, k7, k8, k9, k10, k11⟩ := hX.cells
      have hcs : i = 0 ∨ i = 1 ∨ i = 2 ∨ i = 3 ∨ i = 4 ∨ i = 5 ∨ i = 6 ∨ i = 7 ∨ i = 8 ∨ i = 9 ∨ i = 10 ∨ i = 11 ∨ i = 12 ∨ i = 13 ∨ i = 14 ∨ i = 15 ∨ i = 16 ∨ i = 17 ∨ i = 18 ∨ i = 19 ∨ i = 20 ∨ i = 21 ∨ i = 22 ∨ i = 23 ∨ i = 24 ∨ i = 25 ∨ i = 26 ∨ i = 27 ∨ i = 28 ∨ i = 29 ∨ i = 30 := by omega
      rcases hcs with rfl | rfl | rfl | rfl | rfl | rfl | rfl | rfl | rfl | rfl | rfl | rfl | rfl | rfl | rfl | rfl | rfl | rfl | rfl | rfl | rfl | rfl | rfl | rfl | rfl | rfl | rfl | rfl | rfl | rfl | rfl
      · obtain rfl := Option.some.inj ho
        exact step_val (v := .pointer (some ⟨w.heap.size, 2, none⟩)) (by simp [go_sem, t1]) hI rfl
      · obtain rfl := Option.some.inj ho
        have d0 : a.tmps[23]?.getD undef = .pointer (some ⟨w.heap.size, 2, none⟩) := by rw [← Array.getD_eq_getD_getElem?]; exact hd { on := 0, ground := .data } (by simp) rfl
        exact step_val (v := .int .i64 r.s2) (by simp [go_sem, d0, k2]) hI rfl
      · obtain rfl := Option.some.inj ho
        have d1 : a.tmps[24]?.getD undef = .int .i64 r.s2 := by rw [← Array.getD_eq_getD_getElem?]; exact hd { on := 1, ground := .data } (by simp) rfl
        exact step_call (f := 41) (args := #[.int .i64 r.s2]) (by simp [go_sem, d1]) (call_own (T := fldT r w.heap.size) rfl hI hL2 (shortest_z HR.out.n2 _))
      · obtain rfl := Option.some.inj ho
        exact step_val (v := .pointer (some ⟨w.heap.size, 0, none⟩)) (by simp [go_sem, t1]) hI rfl
      · obtain rfl := Option.some.inj ho
        have d3 : a.tmps[26]?.getD undef = .pointer (some ⟨w.heap.size, 0, none⟩) := by rw [← Array.getD_eq_getD_getElem?]; exact hd { on := 3, ground := .data } (by simp) rfl
        exact step_val (v := .int .i64 r.s0) (by simp [go_sem, d3, k0]) hI rfl
      · obtain rfl := Option.some.inj ho
        have d4 : a.tmps[27]?.getD undef = .int .i64 r.s0 := by rw [← Array.getD_eq_getD_getElem?]; exact hd { on := 4, ground := .data } (by simp) rfl
        exact step_call (f := 41) (args := #[.int .i64 r.s0]) (by simp [go_sem, d4]) (call_own (T := fldT r w.heap.size) rfl hI hL2 (shortest_z HR.out.n0 _))
      · obtain rfl := Option.some.inj ho
        exact step_val (v := .pointer (some ⟨w.heap.size, 1, none⟩)) (by simp [go_sem, t1]) hI rfl
      · obtain rfl := Option.some.inj ho
        have d6 : a.tmps[29]?.getD undef = .pointer (some ⟨w.heap.size, 1, none⟩) := by rw [← Array.getD_eq_getD_getElem?]; exact hd { on := 6, ground := .data } (by simp) rfl
        exact step_val (v := .int .i64 r.s1) (by simp [go_sem, d6, k1]) hI rfl
      · obtain rfl := Option.some.inj ho
        have d7 : a.tmps[30]?.getD undef = .int .i64 r.s1 := by rw [← Array.getD_eq_getD_getElem?]; exact hd { on := 7, ground := .data } (by simp) rfl
        exact step_call (f := 41) (args := #[.int .i64 r.s1]) (by simp [go_sem, d7]) (call_own (T := fldT r w.heap.size) rfl hI hL2 (shortest_z HR.out.n1 _))
      · obtain rfl := Option.some.inj ho
        exact step_val (v := v1) (by simp [go_sem, t3]) hI (Own.below (w := w2) HO1.out hI)
      · obtain rfl := Option.some.inj ho
        exact step_val (v := v2) (by simp [go_sem, t5]) hI (Own.below (w := w2) HO2.out hI)
      · obtain rfl := Option.some.inj ho
        exact step_val (v := .pointer (some ⟨w.heap.size, 5, none⟩)) (by simp [go_sem, t1]) hI rfl
      · obtain rfl := Option.some.inj ho
        have d11 : a.tmps[34]?.getD undef = .pointer (some ⟨w.heap.size, 5, none⟩) := by rw [← Array.getD_eq_getD_getElem?]; exact hd { on := 11, ground := .data } (by simp) rfl
        exact step_val (v := .int .i64 r.s5) (by simp [go_sem, d11, k5]) hI rfl
      · obtain rfl := Option.some.inj ho
        have d12 : a.tmps[35]?.getD undef = .int .i64 r.s5 := by rw [← Array.getD_eq_getD_getElem?]; exact hd { on := 12, ground := .data } (by simp) rfl
        exact step_call (f := 41) (args := #[.int .i64 r.s5]) (by simp [go_sem, d12]) (call_own (T := fldT r w.heap.size) rfl hI hL2 (shortest_z HR.out.n5 _))
      · obtain rfl := Option.some.inj ho
        exact step_val (v := .pointer (some ⟨w.heap.size, 6, none⟩)) (by simp [go_sem, t1]) hI rfl
      · obtain rfl := Option.some.inj ho
        have d14 : a.tmps[37]?.getD undef = .pointer (some ⟨w.heap.size, 6, none⟩) := by rw [← Array.getD_eq_getD_getElem?]; exact hd { on := 14, ground := .data } (by simp) rfl
        exact step_val (v := .int .i64 r.s6) (by simp [go_sem, d14, k6]) hI rfl
      · obtain rfl := Option.some.inj ho
        have d15 : a.tmps[38]?.getD undef = .int .i64 r.s6 := by rw [← Array.getD_eq_getD_getElem?]; exact hd { on := 15, ground := .data } (by simp) rfl
        exact step_call (f := 41) (args := #[.int .i64 r.s6]) (by simp [go_sem, d15]) (call_own (T := fldT r w.heap.size) rfl hI hL2 (shortest_z HR.out.n6 _))
      · obtain rfl := Option.some.inj ho
        exact step_val (v := .pointer (some ⟨w.heap.size, 7, none⟩)) (by simp [go_sem, t1]) hI rfl
      · obtain rfl := Option.some.inj ho
        have d17 : a.tmps[40]?.getD undef = .pointer (some ⟨w.heap.size, 7, none⟩) := by rw [← Array.getD_eq_getD_getElem?]; exact hd { on := 17, ground := .data } (by simp) rfl
        exact step_val (v := .int .i64 r.s7) (by simp [go_sem, d17, k7]) hI rfl
      · obtain rfl := Option.some.inj ho
        have d18 : a.tmps[41]?.getD undef = .int .i64 r.s7 := by rw [← Array.getD_eq_getD_getElem?]; exact hd { on := 18, ground := .data } (by simp) rfl
        exact step_call (f := 41) (args := #[.int .i64 r.s7]) (by simp [go_sem, d18]) (call_own (T := fldT r w.heap.size) rfl hI hL2 (shortest_z HR.out.n7 _))
      · obtain rfl := Option.some.inj ho
        exact step_val (v := .pointer (some ⟨w.heap.size, 8, none⟩)) (by simp [go_sem, t1]) hI rfl
      · obtain rfl := Option.some.inj ho
        have d20 : a.tmps[43]?.getD undef = .pointer (some ⟨w.heap.size, 8, none⟩) := by rw [← Array.getD_eq_getD_getElem?]; exact hd { on := 20, ground := .data } (by simp) rfl
        exact step_val (v := .int .i64 r.s8) (by simp [go_sem, d20, k8]) hI rfl
      · obtain rfl := Option.some.inj ho
        have d21 : a.tmps[44]?.getD undef = .int .i64 r.s8 := by rw [← Array.getD_eq_getD_getElem?]; exact hd { on := 21, ground := .data } (by simp) rfl
        exact step_call (f := 41) (args := #[.int .i64 r.s8]) (by simp [go_sem, d21]) (call_own (T := fldT r w.heap.size) rfl hI hL2 (shortest_z HR.out.n8 _))
      · obtain rfl := Option.some.inj ho
        exact step_val (v := .pointer (some ⟨w.heap.size, 10, none⟩)) (by simp [go_sem, t1]) hI rfl
      · obtain rfl := Option.some.inj ho
        have d23 : a.tmps[46]?.getD undef = .pointer (some ⟨w.heap.size, 10, none⟩) := by rw [← Array.getD_eq_getD_getElem?]; exact hd { on := 23, ground := .data } (by simp) rfl
        exact step_val (v := .int .i64 r.s10) (by simp [go_sem, d23, k10]) hI rfl
      · obtain rfl := Option.some.inj ho
        have d24 : a.tmps[47]?.getD undef = .int .i64 r.s10 := by rw [← Array.getD_eq_getD_getElem?]; exact hd { on := 24, ground := .data } (by simp) rfl
        exact step_call (f := 41) (args := #[.int .i64 r.s10]) (by simp [go_sem, d24]) (call_own (T := fldT r w.heap.size) rfl hI hL2 (shortest_z HR.out.n10 _))
      · obtain rfl := Option.some.inj ho
        exact step_val (v := .agg r.cells) (by simp [go_sem, t1, k0, k1, k2, k3, k4, k5, k6, k7, k8, k9, k10, k11, Rc.cells]) hI rfl
      · obtain rfl := Option.some.inj ho
        have d26 : a.tmps[49]?.getD undef = .agg r.cells := by rw [← Array.getD_eq_getD_getElem?]; exact hd { on := 26, ground := .data } (by simp) rfl
        exact step_call (f := 42) (args := #[.agg r.cells]) (by simp [go_sem, d26]) (call_val (T := fldT r w.heap.size) rfl hI hL2 (flags_any r _))
      · obtain rfl := Option.some.inj ho
        have d27 : a.tmps[50]?.getD undef = .int .i64 (flg r) := by rw [← Array.getD_eq_getD_getElem?]; exact hd { on := 27, ground := .data } (by simp) rfl
        exact step_call (f := 41) (args := #[.int .i64 (flg r)]) (by simp [go_sem, d27]) (call_own (T := fldT r w.heap.size) rfl hI hL2 (shortest_any _ (by have := flg_small r; omega) _))
      · obtain rfl := Option.some.inj ho
        have d2 : Own wx L.heap.size (a.tmps[25]?.getD undef) (shE r.s2.toNat) := by rw [← Array.getD_eq_getD_getElem?]; exact hd { on := 2, ground := .data } (by simp) rfl
        have d5 : Own wx L.heap.size (a.tmps[28]?.getD undef) (shE r.s0.toNat) := by rw [← Array.getD_eq_getD_getElem?]; exact hd { on := 5, ground := .data } (by simp) rfl
        have d8 : Own wx L.heap.size (a.tmps[31]?.getD undef) (shE r.s1.toNat) := by rw [← Array.getD_eq_getD_getElem?]; exact hd { on := 8, ground := .data } (by simp) rfl
        have d9 : Own wx L.heap.size (a.tmps[32]?.getD undef) (pkE r.sa) := by rw [← Array.getD_eq_getD_getElem?]; exact hd { on := 9, ground := .data } (by simp) rfl
        have d10 : Own wx L.heap.size (a.tmps[33]?.getD undef) (pkE r.sb) := by rw [← Array.getD_eq_getD_getElem?]; exact hd { on := 10, ground := .data } (by simp) rfl
        have d13 : Own wx L.heap.size (a.tmps[36]?.getD undef) (shE r.s5.toNat) := by rw [← Array.getD_eq_getD_getElem?]; exact hd { on := 13, ground := .data } (by simp) rfl
        have d16 : Own wx L.heap.size (a.tmps[39]?.getD undef) (shE r.s6.toNat) := by rw [← Array.getD_eq_getD_getElem?]; exact hd { on := 16, ground := .data } (by simp) rfl
        have d19 : Own wx L.heap.size (a.tmps[42]?.getD undef) (shE r.s7.toNat) := by rw [← Array.getD_eq_getD_getElem?]; exact hd { on := 19, ground := .data } (by simp) rfl
        have d22 : Own wx L.heap.size (a.tmps[45]?.getD undef) (shE r.s8.toNat) := by rw [← Array.getD_eq_getD_getElem?]; exact hd { on := 22, ground := .data } (by simp) rfl
        have d25 : Own wx L.heap.size (a.tmps[48]?.getD undef) (shE r.s10.toNat) := by rw [← Array.getD_eq_getD_getElem?]; exact hd { on := 25, ground := .data } (by simp) rfl
        have d28 : Own wx L.heap.size (a.tmps[51]?.getD undef) (shE (flg r)) := by rw [← Array.getD_eq_getD_getElem?]; exact hd { on := 28, ground := .data } (by simp) rfl
        obtain ⟨A2, m2, c2, e2, -, -⟩ := d2.bytm
        rw [e2] at d2
        obtain ⟨A5, m5, c5, e5, -, -⟩ := d5.bytm
        rw [e5] at d5
        obtain ⟨A8, m8, c8, e8, -, -⟩ := d8.bytm
        rw [e8] at d8
        obtain ⟨A9, m9, c9, e9, -, -⟩ := d9.bytm
        rw [e9] at d9
        obtain ⟨A10, m10, c10, e10, -, -⟩ := d10.bytm
        rw [e10] at d10
        obtain ⟨A13, m13, c13, e13, -, -⟩ := d13.bytm
        rw [e13] at d13
        obtain ⟨A16, m16, c16, e16, -, -⟩ := d16.bytm
        rw [e16] at d16
        obtain ⟨A19, m19, c19, e19, -, -⟩ := d19.bytm
        rw [e19] at d19
        obtain ⟨A22, m22, c22, e22, -, -⟩ := d22.bytm
        rw [e22] at d22
        obtain ⟨A25, m25, c25, e25, -, -⟩ := d25.bytm
        rw [e25] at d25
        obtain ⟨A28, m28, c28, e28, -, -⟩ := d28.bytm
        rw [e28] at d28
        exact step_val (v := .agg #[.slice none 0 0, .slice A2 m2 c2, .slice A5 m5 c5, .slice A8 m8 c8, .slice A9 m9 c9, .slice A10 m10 c10, .slice A13 m13 c13, .slice A16 m16 c16, .slice A19 m19 c19, .slice A22 m22 c22, .slice A25 m25 c25, .slice A28 m28 c28]) (by simp [go_sem, e2, e5, e8, e9, e10, e13, e16, e19, e22, e25, e28]) hI ⟨_, rfl, lie_cons (own_none _ _) (lie_cons d2 <| lie_cons d5 <| lie_cons d8 <| lie_cons d9 <| lie_cons d10 <| lie_cons d13 <| lie_cons d16 <| lie_cons d19 <| lie_cons d22 <| lie_cons d25 <| lie_cons d28 <| lie_nil _ _)⟩
      · obtain rfl := Option.some.inj ho
        exact step_new (v := .pointer (some ⟨wx.heap.size, 0, none⟩)) (w' := wx.alloc (.cells Z12 70)) (by simp [go_sem]) (hI.alloc hI.size _) (fun j u h => Yk.below h (below_lit _ _)) ⟨_, rfl, hLx.size, heap_alloc_new _ _⟩
    case qE =>
      intro listed a wx hA hY
      have hI := hA.inv
      have hL2 := HB2.out.size
      have hLx := HB2.out.trans (hI.mono hL2)
      obtain ⟨g, hp, hLg, hg⟩ := hY 30 (by decide)
      obtain ⟨us, hv, hli⟩ := hY 29 (by decide)
      have hp' : a.eval (.tmp 7) = .pointer (some ⟨g, 0, none⟩) := hp
      have hv' : a.eval (.tmp 52) = .agg us.toArray := hv
      have hl12 : us.length = 12 := hli.1
      refine wp_store_mid 70 (.tmp 7) (.tmp 52) rfl g 0 us.toArray hp' hv' (fun j hj => ?_) (by rw [List.size_toArray, hl12]; kernel_rfl) (all_oneCell_toArray (lie_one hli)) ?_
      · rw [List.size_toArray, hl12] at hj
        rw [Nat.zero_add]
        simp [World.cell?, World.frozen?, hg]
        omega
      · have hARR := arr_store hg (by rw [hl12]; rfl) hLg hli hLx
        have hdf : a.defers = [] := hA.defers
        have hl : a.tmps.size = 69 := hA.size
        have s0 := hA.same 0 (by kernel_rfl)
        have s1 := hA.same 1 (by kernel_rfl)
        have s2 := hA.same 2 (by kernel_rfl)
        have s3 := hA.same 3 (by kernel_rfl)
        have s4 := hA.same 4 (by kernel_rfl)
        have s5 := hA.same 5 (by kernel_rfl)
        have s6 := hA.same 6 (by kernel_rfl)
        have s8 := hA.same 8 (by kernel_rfl)
        have s9 := hA.same 9 (by kernel_rfl)
        have s10 := hA.same 10 (by kernel_rfl)
        clear hA hY hv hp hv' hli hI
        obtain ⟨⟨l⟩, df⟩ := a
        simp only at hdf
        subst hdf
        replace hl : l.length = 68 + 1 := hl
        obtain ⟨u0, l0, e0, h0⟩ := lit_succ (n := 68) hl
        subst e0
        obtain ⟨u1, l1, e1, h1⟩ := lit_succ (n := 67) h0
        subst e1
        obtain ⟨u2, l2, e2, h2⟩ := lit_succ (n := 66) h1
        subst e2
        obtain ⟨u3, l3, e3, h3⟩ := lit_succ (n := 65) h2
        subst e3
        obtain ⟨u4, l4, e4, h4⟩ := lit_succ (n := 64) h3
        subst e4
        obtain ⟨u5, l5, e5, h5⟩ := lit_succ (n := 63) h4
        subst e5
        obtain ⟨u6, l6, e6, h6⟩ := lit_succ (n := 62) h5
        subst e6
        obtain ⟨u7, l7, e7, h7⟩ := lit_succ (n := 61) h6
        subst e7
        obtain ⟨u8, l8, e8, h8⟩ := lit_succ (n := 60) h7
        subst e8
        obtain ⟨u9, l9, e9, h9⟩ := lit_succ (n := 59) h8
        subst e9
        obtain ⟨u10, l10, e10, h10⟩ := lit_succ (n := 58) h9
        subst e10
        obtain ⟨u11, l11, e11, h11⟩ := lit_succ (n := 57) h10
        subst e11
        obtain ⟨u12, l12, e12, h12⟩ := lit_succ (n := 56) h11
        subst e12
        obtain ⟨u13, l13, e13, h13⟩ := lit_succ (n := 55) h12
        subst e13
        obtain ⟨u14, l14, e14, h14⟩ := lit_succ (n := 54) h13
        subst e14
        obtain ⟨u15, l15, e15, h15⟩ := lit_succ (n := 53) h14
        subst e15
        obtain ⟨u16, l16, e16, h16⟩ := lit_succ (n := 52) h15
        subst e16
        obtain ⟨u17, l17, e17, h17⟩ := lit_succ (n := 51) h16
        subst e17
        obtain ⟨u18, l18, e18, h18⟩ := lit_succ (n := 50) h17
        subst e18
        obtain ⟨u19, l19, e19, h19⟩ := lit_succ (n := 49) h18
        subst e19
        obtain ⟨u20, l20, e20, h20⟩ := lit_succ (n := 48) h19
        subst e20
        obtain ⟨u21, l21, e21, h21⟩ := lit_succ (n := 47) h20
        subst e21
        obtain ⟨u22, l22, e22, h22⟩ := lit_succ (n := 46) h21
        subst e22
        obtain ⟨u23, l23, e23, h23⟩ := lit_succ (n := 45) h22
        subst e23
        obtain ⟨u24, l24, e24, h24⟩ := lit_succ (n := 44) h23
        subst e24
        obtain ⟨u25, l25, e25, h25⟩ := lit_succ (n := 43) h24
        subst e25
        obtain ⟨u26, l26, e26, h26⟩ := lit_succ (n := 42) h25
        subst e26
        obtain ⟨u27, l27, e27, h27⟩ := lit_succ (n := 41) h26
        subst e27
        obtain ⟨u28, l28, e28, h28⟩ := lit_succ (n := 40) h27
        subst e28
        obtain ⟨u29, l29, e29, h29⟩ := lit_succ (n := 39) h28
        subst e29
        obtain ⟨u30, l30, e30, h30⟩ := lit_succ (n := 38) h29
        subst e30
        obtain ⟨u31, l31, e31, h31⟩ := lit_succ (n := 37) h30
        subst e31
        obtain ⟨u32, l32, e32, h32⟩ := lit_succ (n := 36) h31
        subst e32
        obtain ⟨u33, l33, e33, h33⟩ := lit_succ (n := 35) h32
        subst e33
        obtain ⟨u34, l34, e34, h34⟩ := lit_succ (n := 34) h33
        subst e34
        obtain ⟨u35, l35, e35, h35⟩ := lit_succ (n := 33) h34
        subst e35
        obtain ⟨u36, l36, e36, h36⟩ := lit_succ (n := 32) h35
        subst e36
        obtain ⟨u37, l37, e37, h37⟩ := lit_succ (n := 31) h36
        subst e37
        obtain ⟨u38, l38, e38, h38⟩ := lit_succ (n := 30) h37
        subst e38
        obtain ⟨u39, l39, e39, h39⟩ := lit_succ (n := 29) h38
        subst e39
        obtain ⟨u40, l40, e40, h40⟩ := lit_succ (n := 28) h39
        subst e40
        obtain ⟨u41, l41, e41, h41⟩ := lit_succ (n := 27) h40
        subst e41
        obtain ⟨u42, l42, e42, h42⟩ := lit_succ (n := 26) h41
        subst e42
        obtain ⟨u43, l43, e43, h43⟩ := lit_succ (n := 25) h42
        subst e43
        obtain ⟨u44, l44, e44, h44⟩ := lit_succ (n := 24) h43
        subst e44
        obtain ⟨u45, l45, e45, h45⟩ := lit_succ (n := 23) h44
        subst e45
        obtain ⟨u46, l46, e46, h46⟩ := lit_succ (n := 22) h45
        subst e46
        obtain ⟨u47, l47, e47, h47⟩ := lit_succ (n := 21) h46
        subst e47
        obtain ⟨u48, l48, e48, h48⟩ := lit_succ (n := 20) h47
        subst e48
        obtain ⟨u49, l49, e49, h49⟩ := lit_succ (n := 19) h48
        subst e49
        obtain ⟨u50, l50, e50, h50⟩ := lit_succ (n := 18) h49
        subst e50
        obtain ⟨u51, l51, e51, h51⟩ := lit_succ (n := 17) h50
        subst e51
        obtain ⟨u52, l52, e52, h52⟩ := lit_succ (n := 16) h51
        subst e52
        obtain ⟨u53, l53, e53, h53⟩ := lit_succ (n := 15) h52
        subst e53
        obtain ⟨u54, l54, e54, h54⟩ := lit_succ (n := 14) h53
        subst e54
        obtain ⟨u55, l55, e55, h55⟩ := lit_succ (n := 13) h54
        subst e55
        obtain ⟨u56, l56, e56, h56⟩ := lit_succ (n := 12) h55
        subst e56
        obtain ⟨u57, l57, e57, h57⟩ := lit_succ (n := 11) h56
        subst e57
        obtain ⟨u58, l58, e58, h58⟩ := lit_succ (n := 10) h57
        subst e58
        obtain ⟨u59, l59, e59, h59⟩ := lit_succ (n := 9) h58
        subst e59
        obtain ⟨u60, l60, e60, h60⟩ := lit_succ (n := 8) h59
        subst e60
        obtain ⟨u61, l61, e61, h61⟩ := lit_succ (n := 7) h60
        subst e61
        obtain ⟨u62, l62, e62, h62⟩ := lit_succ (n := 6) h61
        subst e62
        obtain ⟨u63, l63, e63, h63⟩ := lit_succ (n := 5) h62
        subst e63
        obtain ⟨u64, l64, e64, h64⟩ := lit_succ (n := 4) h63
        subst e64
        obtain ⟨u65, l65, e65, h65⟩ := lit_succ (n := 3) h64
        subst e65
        obtain ⟨u66, l66, e66, h66⟩ := lit_succ (n := 2) h65
        subst e66
        obtain ⟨u67, l67, e67, h67⟩ := lit_succ (n := 1) h66
        subst e67
        obtain ⟨u68, l68, e68, h68⟩ := lit_succ (n := 0) h67
        subst e68
        obtain rfl := List.length_eq_zero_iff.1 h68
        replace s0 : u0 = .agg #[.int .i64 r.s0, .int .i64 r.s1, .int .i64 r.s2, .string r.sa, .string r.sb, .int .i64 r.s5, .int .i64 r.s6, .int .i64 r.s7, .int .i64 r.s8, .bool r.b9, .int .i64 r.s10, .bool r.b11] := s0
        replace s1 : u1 = .pointer (some ⟨w.heap.size, 0, none⟩) := s1
        replace s2 : u2 = .slice none 0 0 := s2
        replace s3 : u3 = v1 := s3
        replace s4 : u4 = .int .i64 er1 := s4
        replace s5 : u5 = v2 := s5
        replace s6 : u6 = .int .i64 er2 := s6
        replace s8 : u8 = undef := s8
        replace s9 : u9 = undef := s9
        replace s10 : u10 = undef := s10
        replace hp' : u7 = .pointer (some ⟨g, 0, none⟩) := hp'
        subst s0 s1 s2 s3 s4 s5 s6 s8 s9 s10 hp'
        refine hK { tmps := #[_, .pointer (some ⟨w.heap.size, 0, none⟩), .slice none 0 0, u3, .int .i64 er1, u5, .int .i64 er2, .pointer (some ⟨g, 0, none⟩), undef, undef, undef, u11, u12, u13, u14, u15, u16, u17, u18, u19, u20, u21, u22, u23, u24, u25, u26, u27, u28, u29, u30, u31, u32, u33, u34, u35, u36, u37, u38, u39, u40, u41, u42, u43, u44, u45, u46, u47, u48, u49, u50, u51, u52, u53, u54, u55, u56, u57, u58, u59, u60, u61, u62, u63, u64, u65, u66, u67, u68], defers := [] } _ ?_
        go_meet
        case rel => exact hARR
  case rest =>
    obtain ⟨g, us, rfl, hrg, hlie, hbc⟩ := hcut
    obtain ⟨j0, hj0, hy0, hy1, hy2⟩ := info_parts elInfo
    have hl12 : us.length = 12 := hlie.1
    have HLI := Lib.hid hlie; have HBC := Lib.hid hbc; have HRG := Lib.hid hrg; have H12 := Lib.hid hl12
    clear hrg hlie hbc hl12
    go_wp2_with (refine wpList_load_mid rfl 70 (.tmp 7) rfl g 0 rfl us _ HRG.out Try.underlying70 rfl (by rw [H12.out]; kernel_rfl) ?_)
    go_loopw [8, 54] (fun v i wr => ∃ (k : Nat) (es : List El), i = .int .i64 (k : Int) ∧ k ≤ 12 ∧ Hid (es ++ fltE k ((valsE r).drop k) = fldE r) ∧ Hid (es.length ≤ k) ∧ Hid (FoundG wr L.heap.size wc.heap.size v es) ∧ Hid (Below wc.heap.size wc wr)) (fun _ i _ => 12 - (intOf i).toNat)
    case atStart => exact ⟨0, [], rfl, by omega, rfl, Lib.hid (by simp), ⟨[], World.ownsRow_nil _ _ _ _, by simp, by simp⟩, Below.refl _ _⟩
    case round =>
      obtain ⟨k, es, rfl, hk, HR1, HES, HFO, HB⟩ := hrel
      by_cases hlt : k < 12
      · obtain ⟨l, hl⟩ : ∃ l, (valsE r)[k]? = some l := ⟨_, List.getElem?_eq_getElem (show k < (valsE r).length from hlt)⟩
        obtain ⟨u, hu, hou⟩ := HLI.out.2 k l hl
        obtain ⟨A, m, c, rfl, hm, hy⟩ := hou.bytm
        have hix : ∀ W, (Instr.index 70 (.agg us.toArray) (.int .i64 (k : Int))).run Try.prog W = .ok (.slice A m c) W := fun W => index_arr hu hlt
        have hfar := hou.far
        have hr1 := HR1.out
        rw [drop_at' hl, fltE] at hr1
        have hlt' : (k : Int) < 12 := by omega
        have HFW := Lib.hid (show ∀ x, A = some x → l ≠ [] → L.heap.size ≤ x.block ∧ x.block < wc.heap.size from hfar); have HY := Lib.hid (hy.below HB.out); have HM := Lib.hid hm
        clear hfar hy hm hou hu
        by_cases h0 : m = 0
        · have hl0 : l = [] := List.length_eq_zero_iff.1 (by have := HY.out.len; omega)
          rw [if_pos hl0] at hr1
          have HR2 := Lib.hid hr1
          clear hr1
          subst h0
          go_wp2
          go_roundw
          case rel => exact ⟨k + 1, es, by first | rfl | (simp; omega), by omega, HR2, Lib.hid (by have := HES.out; omega), HFO, HB⟩
          case measure => simp [intOf]; omega
        · have hl0 : l ≠ [] := fun e => h0 (by have := HY.out.len; rw [e] at this; exact this.symm)
          rw [if_neg hl0] at hr1
          have HR2 := Lib.hid hr1
          have hm0 : (0 : Int) < (m : Int) := by omega
          obtain ⟨vs, hvs, hone, hpay⟩ := HFO.out
          have HVS := Lib.hid hvs; have HONE := Lib.hid hone; have HPAY := Lib.hid hpay
          clear hr1 hvs hone hpay
          go_wp2_with (at_builtin; refine wpList_append_lies _ rfl (.tmp 61) (.tmp 65) 22 rfl wc.heap.size 47 j0 (.agg #[.int .i64 0, .slice none 0 0]) 2 32 Try.underlying22 hj0 hy0 hy1 hy2 rfl (by decide) _ _ _ rfl (World.ownsRow.alloc HVS.out _) ⟨wr.heap.size, 0, none⟩ 1 1 [.int .i64 k, .slice A m c] rfl rfl (cell_two_new _ _ _ _) (by intro u hu; simp at hu; rcases hu with rfl | rfl <;> rfl) (by decide) (by have := HES.out; unfold maxLen; omega) (by have := HES.out; omega) (by have := HB.out.size; simp; omega) (wr.heap.size + 1) (by simp) ?_; intro g3 c4 w3 hown3 hg3 hlie hgl; have HFO3 := Lib.hid (FoundG.more2 HVS.out HONE.out HPAY.out HY.out HFW.out HB.out.size _ hown3 hg3 hlie); have HB4 : Hid (Below wc.heap.size wc w3) := Lib.hid ((HB.out.alloc HB.out.size _).grown hg3 (by have := HB.out.size; simp; omega) (fun g hg' => (World.ownsRow.lt HVS.out g hg').1)); clear hown3 hg3 hlie hgl)
          go_roundw
          case rel => exact ⟨k + 1, es ++ [((k : Int), l)], by first | rfl | (simp; omega), by omega, Lib.hid (by rw [List.append_assoc]; exact HR2.out), Lib.hid (by have := HES.out; simp; omega), HFO3, HB4⟩
          case measure => simp [intOf]; omega
      · obtain rfl : k = 12 := by omega
        have hfin : es = fldE r := by
          have h1 := HR1.out
          rw [List.drop_eq_nil_of_le (show (valsE r).length ≤ 12 from Nat.le_refl 12)] at h1
          simpa [fltE] using h1
        have HFI := Lib.hid hfin
        clear hfin
        go_wp2
        go_ret
        have h1 := HBC.out.size
        have h2 := HLS.out
        exact ⟨_, rfl, HFI.out ▸ (HFO.out.mono (by omega) (by omega)), HL0.out.trans ((HBC.out.trans (HB.out.mono h1)).mono HL0.out.size)⟩
end Go.Proofs.Ytinnmnhaeejfdaa
