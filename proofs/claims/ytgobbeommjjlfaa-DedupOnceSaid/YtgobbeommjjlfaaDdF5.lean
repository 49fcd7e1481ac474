/- What Filter keeps: counts, members; the three lists that the reference builds. -/
import Derived.Test.YtgobbeommjjlfaaDdF0
import Derived.Test.YtgobbeommjjlfaaDdX
namespace Go.Proofs.Ytgobbeommjjlfaa
open Go.RowKit

theorem cnt_cons (r : Rg) (l : List Rg) : cntL (r :: l) = (r.2.2 - r.2.1 + 1) + cntL l := by simp [cntL]
theorem cnt_ad2 {s x f : Int} : ∀ {l : List Rg}, cntL (ad2 s x f l) = cntL l + (x - f + 1)
  | [] => by simp [ad2, cntL]
  | y :: l => by
    rw [ad2_cons]
    split
    · rename_i h
      rw [cnt_cons, cnt_cons]
      have := h.2
      simp only
      omega
    · rw [cnt_cons, cnt_cons]
      simp only
      omega
theorem cnt_adL {s x : Int} : ∀ {l : List Rg}, cntL (adL s x l) = cntL l + 1
  | [] => by simp [adL, cntL]
  | y :: l => by
    rw [adL_cons]
    split
    · rename_i h
      rw [cnt_ad2, cnt_cons]
      have := h.2
      omega
    · split
      · rw [cnt_cons, cnt_cons, cnt_adL (l := l)]; omega
      · rw [cnt_ad2]; omega
theorem rejD_y {D : List Rc} {E : Nat → Int} {k : Nat} (h : E k = 0) : Va.rejD D E (k + 1) = Va.rejD D E k := by unfold Va.rejD; rw [Va.rej_yes h]
theorem rejD_n {D : List Rc} {E : Nat → Int} {k : Nat} {r : Rc} (h : E k ≠ 0) (hr : D.getD k Va.rc0 = r) : Va.rejD D E (k + 1) = Va.rejD D E k ++ [(r.s0, r.s1, (k : Int), E k)] := by
  unfold Va.rejD; rw [Va.rej_no h, List.map_append]
  subst hr
  simp
theorem rejD_l {D : List Rc} {E : Nat → Int} {k : Nat} : (Va.rejD D E k).length ≤ k := by unfold Va.rejD; rw [List.length_map]; exact Va.rej_len
theorem parted (D : List Rc) (E : Nat → Int) : ∀ k, (Va.pasN D E k).length + (Va.rejD D E k).length = k
  | 0 => rfl
  | k + 1 => by
    have ih := parted D E k
    by_cases h : E k = 0
    · rw [Va.pas_yes h, rejD_y h, List.length_append]; simp; omega
    · rw [Va.pas_no h, rejD_n h rfl, List.length_append]; simp; omega
theorem cnt_now (l : List Rg) (D : List Rc) : ∀ k, cntL (nowL l D k) = cntL l + (Va.pasN D (fltE l D) k).length
  | 0 => by simp [nowL, Va.pasN]
  | k + 1 => by
    have ih := cnt_now l D k
    by_cases h : fltE l D k = 0
    · rw [nowL_yes h, Va.pas_yes h, cnt_adL, ih, List.length_append]; simp; omega
    · rw [nowL_no h, Va.pas_no h, ih]
theorem flt_zero {l : List Rg} {D : List Rc} {k : Nat} (h : fltE l D k = 0) : idB (D.getD k Va.rc0).s0 (D.getD k Va.rc0).s1 = true ∧ hasL (nowL l D k) (D.getD k Va.rc0).s0 (D.getD k Va.rc0).s1 = false := rfs_zero.1 h
theorem now_has {l : List Rg} {D : List Rc} (hl : Can l) (s x : Int) (k : Nat) : hasL (nowL l D (k + 1)) s x = (hasL (nowL l D k) s x || (decide (fltE l D k = 0) && (decide (s = (D.getD k Va.rc0).s0) && decide (x = (D.getD k Va.rc0).s1)))) := by
  by_cases h : fltE l D k = 0
  · rw [nowL_yes h, adL_has s x (nowL_can hl k).1, decide_eq_true h, Bool.true_and]
  · rw [nowL_no h, decide_eq_false h, Bool.false_and, Bool.or_false]
theorem now_mono {l : List Rg} {D : List Rc} (hl : Can l) {s x : Int} {j : Nat} (h : hasL (nowL l D j) s x = true) : ∀ {k}, j ≤ k → hasL (nowL l D k) s x = true
  | 0, hk => by obtain rfl : j = 0 := by omega
                exact h
  | k + 1, hk => by
    rcases Nat.lt_or_ge k j with h1 | h1
    · obtain rfl : j = k + 1 := by omega
      exact h
    · rw [now_has hl, now_mono hl h h1, Bool.true_or]
theorem pas_in {D : List Rc} {E : Nat → Int} {r : Rc} : ∀ {k}, r ∈ Va.pasN D E k → ∃ i, i < k ∧ D.getD i Va.rc0 = r ∧ E i = 0
  | 0, h => by simp [Va.pasN] at h
  | k + 1, h => by
    by_cases he : E k = 0
    · rw [Va.pas_yes he, List.mem_append, List.mem_singleton] at h
      rcases h with h | h
      · obtain ⟨i, h1, h2, h3⟩ := pas_in h
        exact ⟨i, by omega, h2, h3⟩
      · exact ⟨k, by omega, h.symm, he⟩
    · rw [Va.pas_no he] at h
      obtain ⟨i, h1, h2, h3⟩ := pas_in h
      exact ⟨i, by omega, h2, h3⟩
/-- What is accepted was not seen before, and is seen then. -/
theorem pas_seen {l : List Rg} {D : List Rc} (hl : Can l) {m i : Nat} (hi : i < (Va.pasN D (fltE l D) m).length) {r : Rc} (hr : (Va.pasN D (fltE l D) m).getD i Va.rc0 = r) : hasL l r.s0 r.s1 = false ∧ hasL (nowL l D m) r.s0 r.s1 = true := by
  have hm : r ∈ Va.pasN D (fltE l D) m := by rw [← hr, List.getD_eq_getElem?_getD, List.getElem?_eq_getElem hi]; exact List.getElem_mem hi
  obtain ⟨k, hk, h1, h2⟩ := pas_in hm
  obtain ⟨h3, h4⟩ := flt_zero h2
  rw [h1] at h4
  refine ⟨?_, ?_⟩
  · cases h5 : hasL l r.s0 r.s1 with
    | false => rfl
    | true =>
      have := now_mono (D := D) hl (j := 0) h5 (Nat.zero_le k)
      rw [this] at h4; cases h4
  · refine now_mono hl (j := k + 1) ?_ (by omega)
    rw [now_has hl, h1, decide_eq_true h2]
    simp
/-- The three lists that the reference's Filter builds. -/
structure Thr (w : World) (L : List Rg) (P : List Rc) (J : List Va.Rj) (t v u : Value) (wr : World) : Prop where
  ot : wr.ownsRow w.heap.size 44 3 t L.length (rcl L)
  ov : wr.ownsRow w.heap.size 40 12 v P.length (Va.recl P)
  ou : wr.ownsRow w.heap.size 57 4 u J.length (Va.jcl J)
  vu : ∀ g, v.ownBlock = some g → u.ownBlock ≠ some g
  tv : ∀ g, t.ownBlock = some g → v.ownBlock ≠ some g
  tu : ∀ g, t.ownBlock = some g → u.ownBlock ≠ some g
  ch : Below w.heap.size w wr
theorem own_apart {w w1 : World} {base e size n : Nat} {t v : Value} {xs : List Value} (h : w.ownsRow base e size t n xs) (hg : w.grownBy w1 v.ownBlock) (hd : ∀ g, t.ownBlock = some g → v.ownBlock ≠ some g) : w1.ownsRow base e size t n xs :=
  h.kept hg (by
    cases hu : t.ownBlock with
    | none => exact .inl rfl
    | some g => exact .inr (fun e => hd g hu e.symm))
section
variable {w wr w1 : World} {L : List Rg} {P : List Rc} {J : List Va.Rj} {t v u t' v' u' : Value}
theorem Thr.below (h : Thr w L P J t v u wr) (hb : Below wr.heap.size wr w1) : Thr w L P J t v u w1 :=
  ⟨own_keep h.ot hb, own_keep h.ov hb, own_keep h.ou hb, h.vu, h.tv, h.tu, h.ch.trans (hb.mono h.ch.size)⟩
theorem Thr.alloc (h : Thr w L P J t v u wr) (o : Obj) : Thr w L P J t v u (wr.alloc o) := h.below ((Below.refl _ wr).alloc (Nat.le_refl _) _)
theorem Thr.newT {L' : List Rg} (h : Thr w L P J t v u wr) (hb : Below wr.heap.size wr w1) (ho : w1.ownsRow wr.heap.size 44 3 t' L'.length (rcl L')) : Thr w L' P J t' v u w1 :=
  ⟨Va.own_mono ho h.ch.size, own_keep h.ov hb, own_keep h.ou hb, h.vu, fun g hg hv => by have := (World.ownsRow.lt ho g hg).1; have := (World.ownsRow.lt h.ov g hv).2; omega, fun g hg hv => by have := (World.ownsRow.lt ho g hg).1; have := (World.ownsRow.lt h.ou g hv).2; omega, h.ch.trans (hb.mono h.ch.size)⟩
theorem Thr.appV {r : Rc} (h : Thr w L P J t v u wr) (g1 : w1.ownsRow w.heap.size 40 12 v' (P.length + 1) (Va.recl P ++ Va.recl [r])) (g2 : wr.grownBy w1 v.ownBlock) (g3 : v'.ownBlock = v.ownBlock ∨ v'.ownBlock = some wr.heap.size) : Thr w L (P ++ [r]) J t v' u w1 where
  ot := own_apart h.ot g2 h.tv
  ov := by rw [Va.recl_app, List.length_append]; exact g1
  ou := own_apart h.ou g2 (fun g hg e => h.vu g e hg)
  vu := fun g hg hu => by
    rcases g3 with g3 | g3
    · exact h.vu g (g3 ▸ hg) hu
    · rw [g3] at hg; injection hg with hg; have := (World.ownsRow.lt h.ou g hu).2; omega
  tv := fun g ht hv => by
    rcases g3 with g3 | g3
    · exact h.tv g ht (g3 ▸ hv)
    · rw [g3] at hv; injection hv with hv; have := (World.ownsRow.lt h.ot g ht).2; omega
  tu := h.tu
  ch := Va.Chg.below (Va.Chg.grown (F := fun _ => False) ⟨h.ch.os, h.ch.tape, h.ch.output, h.ch.size, fun k hk _ => h.ch.block k hk⟩ g2 (fun q hq => (World.ownsRow.lt h.ov q hq).1))
theorem Thr.appU {r : Va.Rj} (h : Thr w L P J t v u wr) (g1 : w1.ownsRow w.heap.size 57 4 u' (J.length + 1) (Va.jcl J ++ Va.jcl [r])) (g2 : wr.grownBy w1 u.ownBlock) (g3 : u'.ownBlock = u.ownBlock ∨ u'.ownBlock = some wr.heap.size) : Thr w L P (J ++ [r]) t v u' w1 where
  ot := own_apart h.ot g2 h.tu
  ou := by rw [Va.jcl_app, List.length_append]; exact g1
  ov := own_apart h.ov g2 h.vu
  vu := fun g hg hu => by
    rcases g3 with g3 | g3
    · exact h.vu g hg (g3 ▸ hu)
    · rw [g3] at hu; injection hu with hu; have := (World.ownsRow.lt h.ov g hg).2; omega
  tu := fun g ht hv => by
    rcases g3 with g3 | g3
    · exact h.tu g ht (g3 ▸ hv)
    · rw [g3] at hv; injection hv with hv; have := (World.ownsRow.lt h.ot g ht).2; omega
  tv := h.tv
  ch := Va.Chg.below (Va.Chg.grown (F := fun _ => False) ⟨h.ch.os, h.ch.tape, h.ch.output, h.ch.size, fun k hk _ => h.ch.block k hk⟩ g2 (fun q hq => (World.ownsRow.lt h.ou q hq).1))
end
end Go.Proofs.Ytgobbeommjjlfaa
