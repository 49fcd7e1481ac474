/- Walk: records.Divide. -/
import Derived.Test.YtgobbeommjjlfaaVaK
namespace Go.Proofs.Ytgobbeommjjlfaa.Va
open Go.RowKit

theorem own_cellset {w : World} {base e size n g cap : Nat} {xs : List Value} (h : w.ownsRow base e size (.slice (some ⟨g, 0, none⟩) n cap) n xs) {j : Nat} (hj : j < n * size) (x : Value) : (w.setCell ⟨g, j, none⟩ x).ownsRow base e size (.slice (some ⟨g, 0, none⟩) n cap) n (xs.set j x) := by
  obtain ⟨h1, h2⟩ := h
  refine ⟨by rw [List.length_set]; exact h1, ?_⟩
  rcases h2 with ⟨h2, _⟩ | ⟨g', cap', cur, hv, hb, hg, hnc, hcm, hcs, ht⟩
  · cases h2
  · obtain ⟨rfl, rfl⟩ : g = g' ∧ cap = cap' := by injection hv with a b c; injection a with a; injection a with a; exact ⟨a, c⟩
    refine .inr ⟨g, cap, cur.setIfInBounds j x, rfl, hb, ?_, hnc, hcm, by simpa using hcs, ?_⟩
    · simp [World.setCell, Array.getElem?_modify, hg]
    · rw [Array.toList_setIfInBounds, List.take_set, ht]
theorem jcl_set : ∀ (L : List Rj) (i : Nat) (x y : Int), jcl (L.set i (x, y, (L.getD i rj0).2.2.1, (L.getD i rj0).2.2.2)) = ((jcl L).set (i * 4) (.int .i64 x)).set (i * 4 + 1) (.int .i64 y)
  | [], i, x, y => by simp [jcl]
  | r :: L, 0, x, y => by simp [jcl_cons]
  | r :: L, i + 1, x, y => by
    have := jcl_set L i x y
    rw [List.set_cons_succ, jcl_cons, jcl_cons, show (i + 1) * 4 = i * 4 + 1 + 1 + 1 + 1 by omega, show i * 4 + 1 + 1 + 1 + 1 + 1 = i * 4 + 1 + 1 + 1 + 1 + 1 from rfl]
    simp only [List.set_cons_succ]
    rw [← this]; simp
/-- The two lists, whatever they hold. -/
structure TwoG (w : World) (F0 : Nat → Prop) (P : List Rc) (J : List Rj) (v u : Value) (F : Nat → Prop) (wr : World) : Prop where
  ov : wr.ownsRow w.heap.size 40 12 v P.length (recl P)
  ou : wr.ownsRow w.heap.size 57 4 u J.length (jcl J)
  vu : ∀ g, v.ownBlock = some g → u.ownBlock ≠ some g
  vF : ∀ g, v.ownBlock = some g → ¬ F g
  uF : ∀ g, u.ownBlock = some g → ¬ F g
  old : ∀ b, F b → F0 b ∨ w.heap.size ≤ b
  lt : ∀ b, F b → b < wr.heap.size
  ch : Chg F0 w wr
theorem Two.g {w wr : World} {F0 F : Nat → Prop} {D : List Rc} {E : Nat → Int} {k : Nat} {v u : Value} (h : Two w F0 D E k v u F wr) : TwoG w F0 (pasN D E k) (rejN E k) v u F wr := ⟨h.ov, h.ou, h.vu, h.vF, h.uF, h.old, h.lt, h.ch⟩
section
variable {w wr w1 : World} {F0 F : Nat → Prop} {P : List Rc} {J : List Rj} {v u : Value}
theorem TwoG.alloc (h : TwoG w F0 P J v u F wr) (o : Obj) : TwoG w F0 P J v u F (wr.alloc o) :=
  ⟨h.ov.alloc o, h.ou.alloc o, h.vu, h.vF, h.uF, h.old, fun b hb => by have := h.lt b hb; simp; omega, h.ch.alloc o⟩
theorem TwoG.drew (h : TwoG w F0 P J v u F wr) : TwoG w F0 P J v u F wr.drew := ⟨h.ov, h.ou, h.vu, h.vF, h.uF, h.old, h.lt, h.ch.drew⟩
theorem TwoG.set {g m cap : Nat} {i : Nat} (h : TwoG w F0 P J v (.slice (some ⟨g, 0, none⟩) m cap) F wr) (hi : i < J.length) (hm : J.length = m) (x y : Int) :
    TwoG w F0 P (J.set i (x, y, (J.getD i rj0).2.2.1, (J.getD i rj0).2.2.2)) v (.slice (some ⟨g, 0, none⟩) m cap) F ((wr.setCell ⟨g, i * 4, none⟩ (.int .i64 x)).setCell ⟨g, i * 4 + 1, none⟩ (.int .i64 y)) := by
  subst hm
  have hg : w.heap.size ≤ g := (World.ownsRow.lt h.ou g rfl).1
  have hv : ∀ q, v.ownBlock = some q → q ≠ g := fun q hq e => h.vu q hq (by rw [e]; rfl)
  have hgr : wr.grownBy ((wr.setCell ⟨g, i * 4, none⟩ (.int .i64 x)).setCell ⟨g, i * 4 + 1, none⟩ (.int .i64 y)) (some g) :=
    ⟨rfl, rfl, rfl, by simp [World.setCell], fun k hk hne => (Below.heap_setCell _ _ _ _ (fun e => hne (by rw [e]))).trans (Below.heap_setCell _ _ _ _ (fun e => hne (by rw [e])))⟩
  refine ⟨h.ov.kept hgr ?_, ?_, h.vu, h.vF, h.uF, h.old, fun b hb => Nat.lt_of_lt_of_le (h.lt b hb) hgr.size, h.ch.grown hgr (fun k hk => by injection hk with hk; omega)⟩
  · cases hq : v.ownBlock with
    | none => exact .inl rfl
    | some q => exact .inr (fun e => hv q hq (by injection e))
  · rw [jcl_set, List.length_set]
    exact own_cellset (own_cellset h.ou (by omega) _) (by omega) _
end
/-- The rejects with the identities of their records. -/
def rejD (D : List Rc) (E : Nat → Int) (k : Nat) : List Rj := (rejN E k).map fun r => ((D.getD r.2.2.1.toNat rc0).s0, (D.getD r.2.2.1.toNat rc0).s1, r.2.2.1, r.2.2.2)
def mixJ (D : List Rc) (J : List Rj) (i : Nat) : List Rj := (J.take i).map (fun r => ((D.getD r.2.2.1.toNat rc0).s0, (D.getD r.2.2.1.toNat rc0).s1, r.2.2.1, r.2.2.2)) ++ J.drop i
theorem mix_len (D : List Rc) (J : List Rj) (i : Nat) : (mixJ D J i).length = J.length := by unfold mixJ; rw [List.length_append, List.length_map, List.length_take, List.length_drop]; omega
theorem mix_get {D : List Rc} {J : List Rj} {i : Nat} (hi : i < J.length) : (mixJ D J i).getD i rj0 = J.getD i rj0 := by
  unfold mixJ
  rw [List.getD_eq_getElem?_getD, List.getElem?_append_right (by rw [List.length_map, List.length_take]; omega), List.length_map, List.length_take, Nat.min_eq_left (by omega), Nat.sub_self, List.getElem?_drop, Nat.add_zero]
  rfl
theorem mix_step {D : List Rc} {J : List Rj} {i : Nat} {a b q e : Int} (hi : i < J.length) (hq : J.getD i rj0 = (a, b, q, e)) : mixJ D J (i + 1) = (mixJ D J i).set i ((D.getD q.toNat rc0).s0, (D.getD q.toNat rc0).s1, ((mixJ D J i).getD i rj0).2.2.1, ((mixJ D J i).getD i rj0).2.2.2) := by
  have e1 : J[i] = (a, b, q, e) := by rw [← hq, List.getD_eq_getElem?_getD, List.getElem?_eq_getElem hi]; rfl
  rw [mix_get hi, hq]
  unfold mixJ
  rw [List.take_succ_eq_append_getElem hi, List.map_append, List.set_append_right _ _ (by rw [List.length_map, List.length_take]; omega), List.length_map, List.length_take, Nat.min_eq_left (by omega), Nat.sub_self, List.drop_eq_getElem_cons hi, e1]
  simp
theorem mix_zero (D : List Rc) (J : List Rj) : mixJ D J 0 = J := by simp [mixJ]
theorem mix_all (D : List Rc) (E : Nat → Int) (k : Nat) : mixJ D (rejN E k) (rejN E k).length = rejD D E k := by simp [mixJ, rejD]
theorem rej_index {E : Nat → Int} {k i : Nat} (hi : i < (rejN E k).length) : ∃ (q : Nat) (e : Int), q < k ∧ (rejN E k).getD i rj0 = (0, 0, (q : Int), e) := by
  have hm : (rejN E k).getD i rj0 ∈ rejN E k := by rw [List.getD_eq_getElem?_getD, List.getElem?_eq_getElem hi]; exact List.getElem_mem hi
  obtain ⟨q, hq, he⟩ := List.mem_map.1 hm
  have := (List.mem_filter.1 hq).1
  exact ⟨q, E q, by simpa using this, he.symm⟩
/-- What Divide gives. -/
def DivOut (w : World) (F0 : Nat → Prop) (D : List Rc) (E : Nat → Int) (St : Nat → (Nat → Prop) → World → Prop) (e : Ending) (w' : World) : Prop :=
  ∃ v u F, e = .returned (.tuple #[v, u]) ∧ TwoG w F0 (pasN D E D.length) (rejD D E D.length) v u F w' ∧ St D.length F w'
set_option maxRecDepth 100000 in
set_option maxHeartbeats 16000000 in
theorem divide_any (A : Option Addr) (n c : Nat) (f q : Nat) (D : List Rc) (E : Nat → Int) (St : Nat → (Nat → Prop) → World → Prop) (F0 : Nat → Prop) (w : World)
    (hC : Clo w.heap.size D E St) (hS : St 0 F0 (w.alloc (.cells #[.func (.func f) #[] #[.pointer (some ⟨q, 0, none⟩)]] 55)))
    (hA : RecR w A D) (hAF : ∀ a, A = some a → ¬ F0 a.block) (hn : D.length = n) (h6 : n ≤ 100000) (hc : n ≤ c) (hm : c ≤ maxLen) :
    Calls Try.prog 34 #[.slice A n c, .func (.func f) #[] #[.pointer (some ⟨q, 0, none⟩)]] w (DivOut w F0 D E St) := by
  have hb0 : Below w.heap.size w (w.alloc (.cells #[.func (.func f) #[] #[.pointer (some ⟨q, 0, none⟩)]] 55)) := (Below.refl _ w).alloc (Nat.le_refl _) _
  have HCO := Lib.hid (collect_any A n c w.heap.size D E St F0 _ hC hS (hA.below hb0) hAF hn h6 hc hm)
  have HC := Lib.hid hC; have HN := Lib.hid hn; have HA := Lib.hid hA; have HAF := Lib.hid hAF
  have HB0 := Lib.hid hb0
  obtain ⟨m, hLm⟩ : ∃ m, (rejN E D.length).length = m := ⟨_, rfl⟩
  have hmn : m ≤ n := by rw [← hLm, ← hn]; exact rej_len
  have HLM := Lib.hid hLm
  have HRI := Lib.hid (fun i (h : i < m) => rej_index (E := E) (k := D.length) (i := i) (by rw [hLm]; exact h))
  have HMA := Lib.hid (mix_all D E D.length)
  rw [hLm] at HMA
  unfold maxLen at hm
  clear hC hS hA hAF hb0 hn hLm
  go_enter Try.func34, Try.ntmps34
  go_wp2_with (go_at_call 41; (with_reducible refine HCO.out.mono ?_); rintro e w1 ⟨v1, u1, F1, rfl, ht1, hs1⟩; have HT0 := Lib.hid ht1.g; have HS1 := Lib.hid hs1; obtain ⟨A2, c2, rfl, hc2, hm2, -, hz2⟩ := rj_own (by have := ht1.ou; rw [HLM.out] at this; exact this) HLM.out; clear ht1 hs1 hz2)
  have HT1 : Hid (TwoG (w.alloc (.cells #[.func (.func f) #[] #[.pointer (some ⟨q, 0, none⟩)]] 55)) F0 (pasN D E D.length) (mixJ D (rejN E D.length) 0) v1 (.slice A2 m c2) F1 w1) := Lib.hid (by rw [mix_zero]; exact HT0.out)
  unfold maxLen at hm2
  clear HT0
  go_wp2_with fail
  go_loopw [18] (fun iv wr => ∃ i : Nat, iv = .int .i64 i ∧ i ≤ m ∧ Hid (TwoG (w.alloc (.cells #[.func (.func f) #[] #[.pointer (some ⟨q, 0, none⟩)]] 55)) F0 (pasN D E D.length) (mixJ D (rejN E D.length) i) v1 (.slice A2 m c2) F1 wr) ∧ Hid (St D.length F1 wr)) (fun iv _ => m - (intOf iv).toNat)
  case atStart => exact ⟨0, rfl, by omega, HT1, HS1⟩
  case round =>
    obtain ⟨i, rfl, hi, HT, HS⟩ := hrel
    by_cases hlt : i < m
    · have hlt' : (i : Int) < (m : Int) := by omega
      have hi0 : (0 : Int) ≤ (i : Int) := by omega
      obtain ⟨k, e, hk, hje⟩ := HRI.out i hlt
      have hmx := mix_get (D := D) (J := rejN E D.length) (i := i) (by rw [HLM.out]; exact hlt)
      have HMS := Lib.hid (mix_step (D := D) (by rw [HLM.out]; exact hlt) hje)
      have hou := HT.out.ou
      obtain ⟨A3, c3, hv3, -, -, hJR, -⟩ := rj_own hou rfl
      obtain ⟨rfl, rfl⟩ : A2 = A3 ∧ c2 = c3 := by injection hv3 with a b c; exact ⟨a, c⟩
      obtain ⟨g, o, hA3, hgl, j0, j1, j2, j3⟩ := hJR i (by rw [mix_len, HLM.out]; exact hlt)
      rw [hmx, hje] at j0 j1 j2 j3
      simp only at j0 j1 j2 j3
      have hg0 : o = 0 ∧ ∀ x, wr.frozen? ⟨g, x, none⟩ = false := by
        subst hA3
        rcases hou.2 with ⟨hh, _⟩ | ⟨g', cap, cur, hh, _, hgg, _⟩
        · cases hh
        · injection hh with a b c
          injection a with a
          injection a with a1 a2 a3
          subst a1
          exact ⟨a2, fun x => by simp [World.frozen?, hgg]⟩
      obtain ⟨rfl, hfz⟩ := hg0
      subst hA3
      rw [Nat.zero_add] at j0 j1 j2 j3
      have HAr : Hid (RecR wr A D) := Lib.hid ((HA.out.below HB0.out).keep HT.out.ch.size (fun a ha hb => HT.out.ch.block _ hb (HAF.out a ha)))
      have hkl : k < D.length := hk
      obtain ⟨bk, off, rfl, hbl, hcs⟩ := HAr.out k hkl
      obtain ⟨⟨s0, s1, s2, sa, sb, s5, s6, s7, s8, b9, s10, b11⟩, hp⟩ : ∃ r, D.getD k rc0 = r := ⟨_, rfl⟩
      rw [hp] at hcs
      obtain ⟨e0, e1, e2, e3, e4, e5, e6, e7, e8, e9, e10, e11⟩ := hcs.all
      simp only at e0 e1 e2 e3 e4 e5 e6 e7 e8 e9 e10 e11
      have hkn : (k : Int) < (n : Int) := by have := HN.out; omega
      have hk0 : (0 : Int) ≤ (k : Int) := by omega
      have HP := Lib.hid hp
      have HTA := Lib.hid (HT.out.alloc (.cells #[.int .i64 s0, .int .i64 s1, .int .i64 s2, .string sa, .string sb, .int .i64 s5, .int .i64 s6, .int .i64 s7, .int .i64 s8, .bool b9, .int .i64 s10, .bool b11] 40))
      have HSA := Lib.hid (HC.out.alloc HS.out (.cells #[.int .i64 s0, .int .i64 s1, .int .i64 s2, .string sa, .string sb, .int .i64 s5, .int .i64 s6, .int .i64 s7, .int .i64 s8, .bool b9, .int .i64 s10, .bool b11] 40))
      obtain ⟨c0, c1, c2', c3, c4, c5, c6, c7, c8, c9, c10, c11⟩ := (show RcB (wr.alloc (.cells #[.int .i64 s0, .int .i64 s1, .int .i64 s2, .string sa, .string sb, .int .i64 s5, .int .i64 s6, .int .i64 s7, .int .i64 s8, .bool b9, .int .i64 s10, .bool b11] 40)) wr.heap.size ⟨s0, s1, s2, sa, sb, s5, s6, s7, s8, b9, s10, b11⟩ from heap_alloc_new wr _).cells
      simp only at c0 c1
      have hbB : Below wr.heap.size wr (wr.alloc (.cells #[.int .i64 s0, .int .i64 s1, .int .i64 s2, .string sa, .string sb, .int .i64 s5, .int .i64 s6, .int .i64 s7, .int .i64 s8, .bool b9, .int .i64 s10, .bool b11] 40)) := (Below.refl _ _).alloc (Nat.le_refl _) _
      have k0 := (hbB.cell (p := ⟨g, i * 4, none⟩) hgl).trans j0
      have k1 := (hbB.cell (p := ⟨g, i * 4 + 1, none⟩) hgl).trans j1
      have f0 := (hbB.frozen (p := ⟨g, i * 4, none⟩) hgl).trans (hfz _)
      have f1 := (hbB.frozen (p := ⟨g, i * 4 + 1, none⟩) hgl).trans (hfz _)
      have HGW : Hid (g < wr.heap.size) := Lib.hid hgl
      obtain ⟨R, hR⟩ : ∃ R, wr.heap.size = R := ⟨_, rfl⟩
      obtain ⟨wq, hwq⟩ : ∃ W, wr.alloc (.cells #[.int .i64 s0, .int .i64 s1, .int .i64 s2, .string sa, .string sb, .int .i64 s5, .int .i64 s6, .int .i64 s7, .int .i64 s8, .bool b9, .int .i64 s10, .bool b11] 40) = W := ⟨_, rfl⟩
      rw [hwq] at HTA HSA c0 c1 k0 k1 f0 f1
      rw [hR] at c0 c1 HGW
      have hgR : g ≠ R := by have := HGW.out; omega
      clear c2' c3 c4 c5 c6 c7 c8 c9 c10 c11 hou hv3 hJR hmx hje hp hcs hk hkl hfz hbB j0 j1 j3 hbl
      go_wp2_with fail
      clear e0 e1 e2 e3 e4 e5 e6 e7 e8 e9 e10 e11 j2 hwq hR
      go_region
      have HT2 : Hid (TwoG (w.alloc (.cells #[.func (.func f) #[] #[.pointer (some ⟨q, 0, none⟩)]] 55)) F0 (pasN D E D.length) (mixJ D (rejN E D.length) (i + 1)) v1 (.slice (some ⟨g, 0, none⟩) m c2) F1 ((wq.setCell ⟨g, i * 4, none⟩ (.int .i64 s0)).setCell ⟨g, i * 4 + 1, none⟩ (.int .i64 s1))) := Lib.hid (by
        have h := HTA.out.set (i := i) (by rw [mix_len, HLM.out]; exact hlt) (by rw [mix_len, HLM.out]) s0 s1
        rw [HMS.out, Int.toNat_natCast, HP.out]
        exact h)
      have HS2 : Hid (St D.length F1 ((wq.setCell ⟨g, i * 4, none⟩ (.int .i64 s0)).setCell ⟨g, i * 4 + 1, none⟩ (.int .i64 s1))) := Lib.hid (HC.out.grown (row := some g) HSA.out ⟨rfl, rfl, rfl, by simp [World.setCell], fun k hk hne => (Below.heap_setCell _ _ _ _ (fun e => hne (by rw [e]))).trans (Below.heap_setCell _ _ _ _ (fun e => hne (by rw [e])))⟩ (fun x hx => by injection hx with hx; rw [← hx]; exact HT.out.uF g rfl))
      have HS3 : Hid (∀ z, St D.length F1 (((wq.setCell ⟨g, i * 4, none⟩ (.int .i64 s0)).setCell ⟨g, i * 4 + 1, none⟩ (.int .i64 s1)).drewN z)) := Lib.hid (fun z => HC.out.keep _ _ _ _ HS2.out (fun _ _ => rfl) (Nat.le_refl _))
      go_wp2_with fail
      trace_state
      go_roundw
      case rel => exact ⟨i + 1, by go_num, by omega, Lib.hid HT2.out.drew, HS3.out 1⟩
      case measure => simp [intOf]; omega
    · obtain rfl : i = m := by omega
      go_wp2_with fail
      go_ret2
      refine ⟨v1, _, F1, rfl, ?_, HS.out⟩
      have h := HT.out
      rw [HMA.out] at h
      exact ⟨own_mono h.ov (by simp), own_mono h.ou (by simp), h.vu, h.vF, h.uF, fun b hb => (h.old b hb).imp id (fun hh => by simp at hh; omega), h.lt, (chg_below (F := F0) HB0.out).trans h.ch (fun _ _ hh => hh)⟩
end Go.Proofs.Ytgobbeommjjlfaa.Va
