/- Walks: a range is inserted into a list of the call's own. -/
import Derived.Test.YtgobbeommjjlfaaDdK
import Derived.Maps.AppendAt
namespace Go.Proofs.Ytgobbeommjjlfaa
open Go.RowKit

theorem rangeInfo : (Try.prog.info? 44).map (fun i => (i.zero, i.size, i.bytes)) = some (some (.agg #[.int .i64 0, .int .i64 0, .int .i64 0]), 3, 24) := by kernel_rfl
/-- What the call owns and has turned to. -/
def InsOut (base : Nat) (row : Option Nat) (m : Nat) (l : List Rg) (w : World) (e : Ending) (w' : World) : Prop :=
  ∃ v', e = .returned v' ∧ w'.ownsRow base 44 3 v' m (rcl l) ∧ w.grownBy w' row ∧ ∀ x, v'.ownBlock = some x → row = some x ∨ w.heap.size ≤ x
theorem Blk.src {w : World} {g : Nat} {t : TypeId} {r : Rg} (h : Blk w g t (rgv r)) : ∀ j v, (rcl [r])[j]? = some v → w.cell? ((⟨g, 0, none⟩ : Addr).add j) = some v := fun j v hj => by
  rw [add_none, Nat.zero_add, h.cell j, ← hj]
  show (rgv r)[j]? = (rgv r).toList[j]?
  simp
set_option maxRecDepth 100000 in
set_option maxHeartbeats 4000000 in
theorem insert_end (base : Nat) (v : Value) (n vb : Nat) (l : List Rg) (r : Rg) (w : World) (hown : w.ownsRow base 44 3 v n (rcl l)) (hn : l.length = n) (h6 : n ≤ 1000000) (hB : Blk w vb 44 (rgv r)) (hbase : base ≤ w.heap.size) :
    Calls Try.prog 43 #[v, .int .i64 n, .slice (some ⟨vb, 0, none⟩) 1 1] w (InsOut base v.ownBlock (n + 1) (l ++ [r]) w) := by
  obtain ⟨i0, hi0, hz0, hz1, hz2⟩ := info_parts rangeInfo
  have HB := Lib.hid hB.src
  have HO := Lib.hid hown
  obtain ⟨A, c, rfl, hc, hm, -⟩ := rg_own hown hn
  have hm2 := hm
  unfold maxLen at hm2
  clear hB hown hn
  go_enter Try.func43, Try.ntmps43
  go_wp2_with (at_builtin; refine wpList_append_own_at _ rfl _ _ 22 rfl base 44 i0 _ 3 24 Try.underlying22 hi0 hz0 hz1 hz2 rfl (by decide) (.slice A n _) n (rcl l) rfl HO.out ⟨vb, 0, none⟩ 1 1 (rcl [r]) rfl (by simp [rcl]) HB.out (rcl_one _) (by unfold maxLen; omega) (by omega) hbase ?_; intro v' w' g1 g2 _ g3)
  all_goals
    go_ret
    exact ⟨v', rfl, by rw [rcl_app]; exact g1, by cases A <;> exact g2, fun x hx => by
      rcases g3 with g3 | g3
      · rw [g3] at hx; exact .inl (by cases A <;> exact hx)
      · rw [g3] at hx; injection hx with hx; exact .inr (Nat.le_of_eq hx)⟩
/-- What stands in a row that is known whole. -/
theorem own_whole {base g cap n : Nat} {cur : List Value} {l : List Rg} {w : World} (hg : Whole w g 44 cur) (hb : base ≤ g) (hnc : n ≤ cap) (hm : cap ≤ maxLen) (hcs : cur.length = cap * 3) (hl : l.length = n) (ht : cur.take (n * 3) = rcl l) :
    w.ownsRow base 44 3 (.slice (some ⟨g, 0, none⟩) n cap) n (rcl l) :=
  ⟨by rw [rcl_len, hl], .inr ⟨g, cap, cur.toArray, rfl, hb, hg, hnc, hm, by simpa using hcs, by simpa using ht⟩⟩
theorem rcl_take (l : List Rg) (i : Nat) : (rcl l).take (i * 3) = rcl (l.take i) := by
  induction l generalizing i with
  | nil => simp [rcl]
  | cons r l ih =>
    cases i with
    | zero => rfl
    | succ i => rw [rcl_cons, show (i + 1) * 3 = i * 3 + 1 + 1 + 1 by omega, List.take_succ_cons, List.take_succ_cons, List.take_succ_cons, ih, List.take_succ_cons, rcl_cons]
theorem rcl_drop (l : List Rg) (i : Nat) : (rcl l).drop (i * 3) = rcl (l.drop i) := by
  induction l generalizing i with
  | nil => simp [rcl]
  | cons r l ih =>
    cases i with
    | zero => rfl
    | succ i => rw [rcl_cons, show (i + 1) * 3 = i * 3 + 1 + 1 + 1 by omega, List.drop_succ_cons, List.drop_succ_cons, List.drop_succ_cons, ih, List.drop_succ_cons]
/-- The cells of a tail. -/
theorem tail_cells {w : World} {g n i : Nat} {cur : List Value} {l : List Rg} (hg : Whole w g 44 cur) (ht : cur.take (n * 3) = rcl l) : ∀ j v, (rcl (l.drop i))[j]? = some v → w.cell? ⟨g, i * 3 + j, none⟩ = some v := fun j v hj => by
  rw [hg.cell]
  rw [← rcl_drop, List.getElem?_drop, ← ht, List.getElem?_take] at hj
  split at hj
  · exact hj
  · cases hj
theorem splice_take {L cs : List Value} {o m : Nat} (ho : o ≤ L.length) (h : m ≤ o) : (splice L o cs).take m = L.take m := by
  unfold splice
  rw [List.take_append_of_le_length (by rw [List.length_take]; omega), List.take_take, Nat.min_eq_left h]
theorem splice_upto {L cs : List Value} {o m : Nat} (ho : o ≤ L.length) (h : m = o + cs.length) : (splice L o cs).take m = L.take o ++ cs := by
  unfold splice
  rw [← List.append_assoc, List.take_append_of_le_length (by rw [List.length_append, List.length_take]; omega), List.take_of_length_le (by rw [List.length_append, List.length_take]; omega)]
theorem splice_drop {L cs : List Value} {o m : Nat} (ho : o ≤ L.length) (h : o + cs.length ≤ m) : (splice L o cs).drop m = L.drop m := by
  unfold splice
  rw [← List.append_assoc, List.drop_append, List.drop_of_length_le (by rw [List.length_append, List.length_take]; omega), List.nil_append, List.drop_drop]
  congr 1
  rw [List.length_append, List.length_take]; omega
theorem splice_mid {L cs : List Value} {o m : Nat} (ho : o ≤ L.length) (h : m = cs.length) : ((splice L o cs).drop o).take m = cs := by
  unfold splice
  subst h
  rw [List.drop_append, List.drop_of_length_le (by rw [List.length_take]; omega), List.nil_append, List.length_take, Nat.min_eq_left ho, Nat.sub_self, List.drop_zero, List.take_left]
theorem cut_take {cur : List Value} {l : List Rg} {n i : Nat} (ht : cur.take (n * 3) = rcl l) (hi : i ≤ n) : cur.take (i * 3) = rcl (l.take i) := by
  rw [← rcl_take, ← ht, List.take_take, Nat.min_eq_left (by omega)]
theorem shift_take {cur : List Value} {l : List Rg} {n i : Nat} {r : Rg} (hn : l.length = n) (ht : cur.take (n * 3) = rcl l) (hi : i < n) (hc : (n + 1) * 3 ≤ cur.length) :
    (splice (splice cur ((i + 1) * 3) (rcl (l.drop i))) (i * 3) (rcl [r])).take ((n + 1) * 3) = rcl (l.take i ++ r :: l.drop i) := by
  have hx : (rcl (l.drop i)).length = (n - i) * 3 := by rw [rcl_len, List.length_drop, hn]
  have hr : (rcl [r]).length = 3 := rfl
  have h1 : (splice cur ((i + 1) * 3) (rcl (l.drop i))).length = cur.length := splice_len _ _ _ (by rw [hx]; omega)
  rw [show (n + 1) * 3 = (i + 1) * 3 + (n - i) * 3 by omega, List.take_add, splice_upto (by rw [h1]; omega) (by rw [hr]; omega), splice_drop (by rw [h1]; omega) (by rw [hr]; omega), splice_mid (by omega) hx.symm, splice_take (by omega) (by omega), cut_take ht (by omega), rcl_app]
  simp [rcl]
set_option maxRecDepth 100000 in
set_option maxHeartbeats 4000000 in
theorem insert_room (base g cap n i vb : Nat) (cur : List Value) (l : List Rg) (r : Rg) (w : World) (hg : Whole w g 44 cur) (hb : base ≤ g) (hin : i < n) (hnc : n < cap) (hm : cap ≤ maxLen) (hcs : cur.length = cap * 3) (hn : l.length = n) (ht : cur.take (n * 3) = rcl l)
    (h6 : n ≤ 1000000) (hB : Blk w vb 44 (rgv r)) (hvb : vb ≠ g) :
    Calls Try.prog 43 #[.slice (some ⟨g, 0, none⟩) n cap, .int .i64 i, .slice (some ⟨vb, 0, none⟩) 1 1] w (InsOut base (some g) (n + 1) (l.take i ++ r :: l.drop i) w) := by
  have hm2 := hm
  unfold maxLen at hm2
  have hsa : w.shape? vb = some (44, 3) := by unfold Blk at hB; simp [World.shape?, hB, rgv]
  have hsb : w.shape? g = some (44, cap * 3) := by unfold Whole at hg; simp [World.shape?, hg, hcs]
  have hfa := hB.frozen 0
  have hfe := hB.frozen 3
  have hov : ∀ o lb cb, (callFunc 44 #[.slice (some ⟨vb, 0, none⟩) 1 1, .slice (some ⟨g, o, none⟩) lb cb]).run Try.prog w = .ok (.value (.bool false)) w := fun o lb cb => by
    rw [run_callFunc_extern Try.func44 (by kernel_rfl) (by kernel_rfl) (by kernel_rfl) (e := Extern.SlicesOverlaps.overlaps #[22, 22] #[4]) (by kernel_rfl),
      Lib.run_overlaps_apart w 22 4 44 Try.underlying22 3 Try.sizeOf44 ⟨vb, 0, none⟩ ⟨g, o, none⟩ 1 1 lb cb hvb 44 44 3 (cap * 3) hsa hsb (by omega) hfa hfe]
    rfl
  have hz2 : ¬ ((i : Int) = (n : Int)) := by omega
  have hb4 : ¬ (cap = i) := by omega
  have hb2 : ¬ (cap = i + 1) := by omega
  have hb5 : decide ((cap : Int) < (n : Int) + 1) = false := decide_eq_false (by omega)
  have HG := Lib.hid hg; have HT := Lib.hid ht; have HCS := Lib.hid hcs; have HN := Lib.hid hn; have HB := Lib.hid hB; have HVB := Lib.hid hvb
  clear hg ht hcs hn hB hsa hsb hfa hfe hvb
  go_enter Try.func43, Try.ntmps43
  go_wp2_with (simp only [hov])
  have hw1 : IntKind.i64.wrap ((i : Int) + 1) = (i : Int) + 1 := IntWalk.i64_in _ (by omega)
  have hb1 : (0 : Int) ≤ (i : Int) + 1 := by omega
  have htn : ((i : Int) + 1).toNat = i + 1 := by omega
  have hb3 : (i : Int) + 1 ≤ (n : Int) + 1 := by omega
  have hb6 : (i : Int) ≤ (n : Int) + 1 := by omega
  have hdl : (l.drop i).length = n - i := by rw [List.length_drop, HN.out]
  have HDL := Lib.hid hdl
  have hsz : (Try.prog.info? 44).map (·.size) = some 3 := by
    obtain ⟨i0, hi0, h0, h1, h2⟩ := info_parts rangeInfo
    rw [hi0]; simp [h1]
  have HSZ := Lib.hid hsz
  clear hdl hsz hov
  go_region_law (refine step_copyK rfl _ _ 22 22 rfl 44 Try.underlying22 3 HSZ.out g ((i + 1) * 3) (n - i) (cap - (i + 1)) ⟨g, i * 3, none⟩ (n + 1 - i) (cap - i) (by simp [Act.eval, Act.put]) (by simp [Act.eval, Act.put]) cur 44 HG.out (rcl (l.drop i)) (n - i) (by simp only [Nat.min_def]; split <;> omega) (by rw [rcl_len, HDL.out]) (fun j v hj => by rw [add_none]; exact tail_cells (show Whole w.drew g _ cur from HG.out) HT.out j v hj) (by rw [rcl_len, HDL.out, HCS.out]; omega) (rcl_one _) ?_; intro w1 HG1 HR1)
  have hfit : (i + 1) * 3 + (rcl (l.drop i)).length ≤ cur.length := by rw [rcl_len, HDL.out, HCS.out]; omega
  have HL1 : Hid ((splice cur ((i + 1) * 3) (rcl (l.drop i))).length = cap * 3) := Lib.hid (by rw [splice_len _ _ _ hfit, HCS.out])
  have HB1 := Lib.hid (Blk.src (HB.out.grown (drew_grown HR1.out) (by simpa using HVB.out)))
  clear hw1 hfit
  go_wp2_with (refine wpList_copyK rfl (.tmp 80) (.tmp 81) 22 22 rfl 44 Try.underlying22 3 HSZ.out g (i * 3) (n + 1 - i) (cap - i) ⟨vb, 0, none⟩ 1 1 rfl rfl _ 44 HG1.out (rcl [r]) 1 (by simp only [Nat.min_def]; split <;> omega) (by rw [rcl_len]; rfl) HB1.out (by rw [rcl_len, HL1.out]; simp; omega) (rcl_one _) ?_; intro w2 HG2 HR2)
  go_ret
  exact ⟨_, rfl, own_whole HG2.out hb (by omega) hm (by rw [splice_len _ _ _ (by rw [rcl_len, HL1.out]; simp; omega), HL1.out]) (by rw [List.length_append, List.length_take, List.length_cons, HDL.out, HN.out]; omega) (shift_take HN.out HT.out hin (by rw [HCS.out]; omega)), grown_trans (drew_grown HR1.out) HR2.out, fun x hx => .inl hx⟩
theorem put_take {cur : List Value} {l : List Rg} {i m : Nat} {r : Rg} {X : List Value} (ht : cur.take (i * 3) = rcl (l.take i)) (hc : (i + 1) * 3 + X.length ≤ cur.length) (hm : m = (i + 1) * 3 + X.length) :
    (splice (splice cur (i * 3) (rcl [r])) ((i + 1) * 3) X).take m = rcl (l.take i) ++ (rcl [r] ++ X) := by
  have hr : (rcl [r]).length = 3 := rfl
  have h1 : (splice cur (i * 3) (rcl [r])).length = cur.length := splice_len _ _ _ (by rw [hr]; omega)
  rw [splice_upto (by omega) hm, splice_upto (by omega) (by rw [hr]; omega), ht, List.append_assoc]
theorem zz_len (z : Value) (hz : z.cells.size = 3) (m : Nat) : (Builtin.zeroCells z.cells m).toList.length = m * 3 := by simp [Builtin.zeroCells, hz]
set_option maxRecDepth 100000 in
set_option maxHeartbeats 4000000 in
theorem insert_grow (base g cap n i vb : Nat) (cur : List Value) (l : List Rg) (r : Rg) (w : World) (hg : Whole w g 44 cur) (hbw : base ≤ w.heap.size) (hin : i < n) (hnc : cap = n) (hm : cap ≤ maxLen) (hcs : cur.length = cap * 3) (hn : l.length = n) (ht : cur.take (n * 3) = rcl l)
    (h6 : n ≤ 1000000) (hB : Blk w vb 44 (rgv r)) (hvb : vb ≠ g) :
    Calls Try.prog 43 #[.slice (some ⟨g, 0, none⟩) n cap, .int .i64 i, .slice (some ⟨vb, 0, none⟩) 1 1] w (InsOut base (some g) (n + 1) (l.take i ++ r :: l.drop i) w) := by
  subst hnc
  have hgl := hg.lt
  have hvl := hB.lt
  obtain ⟨i0, hi0, hz0, hz1, hz2⟩ := info_parts rangeInfo
  have hrun := fun ty => run_append_zeros_grow w 22 3 ty 44 i0 _ .i64 .i64 Try.underlying22 Try.underlying3 hi0 hz0 ⟨g, 0, none⟩ i cap (rcl (l.take i)) (by rw [rcl_len, List.length_take, hz1, hn]; rw [Nat.min_eq_left (by omega)])
    (fun j v hj => by rw [add_none, Nat.zero_add, hg.cell]; rw [← cut_take ht (show i ≤ cap by omega), List.getElem?_take] at hj; split at hj; (· exact hj); (· cases hj))
    (cap + 1 - i) (by omega) (by omega) (by omega) (by omega) (by rw [hz2]; exact growslice_fits (by omega) (by omega)) (by rw [hz2]; omega)
  rw [show i + (cap + 1 - i) = cap + 1 by omega, show ((cap + 1 - i : Nat) : Int) = (cap : Int) + 1 - (i : Int) by omega] at hrun
  have hge := grownCap_ge w (cap + 1) cap 44
  have hle := grownCap_le_maxLen w (cap + 1) cap 44 (by unfold maxLen; omega)
  obtain ⟨NC, hNC⟩ : ∃ NC, grownCap w (cap + 1) cap 44 = NC := ⟨_, rfl⟩
  rw [hNC] at hge hle hrun
  have hle2 := hle
  unfold maxLen at hle2
  obtain ⟨C1, hC1⟩ : ∃ C1, rcl (l.take i) ++ (Builtin.zeroCells (Value.agg #[.int .i64 0, .int .i64 0, .int .i64 0]).cells (cap + 1 - i)).toList ++ (Builtin.zeroCells (Value.agg #[.int .i64 0, .int .i64 0, .int .i64 0]).cells (NC - (cap + 1))).toList = C1 := ⟨_, rfl⟩
  have hC1l : C1.length = NC * 3 := by rw [← hC1, List.length_append, List.length_append, rcl_len, zz_len _ rfl, zz_len _ rfl, List.length_take]; omega
  have hC1t : C1.take (i * 3) = rcl (l.take i) := by rw [← hC1, List.append_assoc, List.take_append_of_le_length (by rw [rcl_len, List.length_take]; omega), List.take_of_length_le (by rw [rcl_len, List.length_take]; omega)]
  have hw : w.drew.alloc (.cells ((rcl (l.take i)).toArray ++ Builtin.zeroCells (Value.agg #[.int .i64 0, .int .i64 0, .int .i64 0]).cells (cap + 1 - i) ++ Builtin.zeroCells (Value.agg #[.int .i64 0, .int .i64 0, .int .i64 0]).cells (NC - (cap + 1))) 44) = w.drew.alloc (.cells C1.toArray 44) := by rw [← hC1]; congr 2; apply Array.toList_inj.1; simp
  rw [hw] at hrun
  obtain ⟨G, hG⟩ : ∃ G, w.heap.size = G := ⟨_, rfl⟩
  obtain ⟨W1, hW1⟩ : ∃ W1, w.drew.alloc (.cells C1.toArray 44) = W1 := ⟨_, rfl⟩
  have HG1 : Hid (Whole W1 G 44 C1) := Lib.hid (by rw [← hW1, ← hG]; exact heap_alloc_new w.drew _)
  have HR1 : Hid (w.grownBy W1 (some g)) := Lib.hid (by rw [← hW1]; exact ⟨rfl, rfl, rfl, by simp, fun k hk _ => Below.heap_alloc w.drew _ k hk⟩)
  have HR0 : Hid (w.grownBy W1 none) := Lib.hid (by rw [← hW1]; exact ⟨rfl, rfl, rfl, by simp, fun k hk _ => Below.heap_alloc w.drew _ k hk⟩)
  rw [hW1, hG] at hrun
  have hz2' : ¬ ((i : Int) = (cap : Int)) := by omega
  have hb4 : ¬ (cap = i) := by omega
  have hb5 : decide ((cap : Int) < (cap : Int) + 1) = true := decide_eq_true (by omega)
  have hb6 : ¬ (NC = i) := by omega
  have hb7 : ¬ (NC = i + 1) := by omega
  have HG0 := Lib.hid hg; have HT := Lib.hid ht; have HCS := Lib.hid hcs; have HN := Lib.hid hn; have HB := Lib.hid hB; have HVB := Lib.hid hvb; have HL1 := Lib.hid hC1l; have HT1 := Lib.hid hC1t
  have HRUN := Lib.hid hrun; have HSZ0 := Lib.hid hG
  have hsz : (Try.prog.info? 44).map (·.size) = some 3 := by rw [hi0]; simp [hz1]
  have HSZ := Lib.hid hsz
  have hgG : g ≠ G := by omega
  have HGG := Lib.hid hgG
  have hbG : base ≤ G := by omega
  have HVL : Hid (vb < G) := Lib.hid (by omega)
  clear hg ht hcs hn hB hvb hC1l hC1t hC1 hNC hw hW1 hrun hi0 hz0 hz1 hz2 hG hsz hgG hgl hvl hbw
  go_enter Try.func43, Try.ntmps43
  go_wp2_with (first
    | (at_builtin; refine Lib.wpList_append_run _ rfl _ _ _ _ rfl _ _ rfl rfl _ _ (HRUN.out _) ?_)
    | (refine wpList_copyK rfl (.tmp 43) (.tmp 44) 22 22 rfl 44 Try.underlying22 3 HSZ.out G (i * 3) (cap + 1 - i) (NC - i) ⟨vb, 0, none⟩ 1 1 rfl rfl _ 44 HG1.out (rcl [r]) 1 (by simp only [Nat.min_def]; split <;> omega) (by rw [rcl_len]; rfl) (Blk.src (HB.out.grown HR0.out (by simp))) (by rw [rcl_len, HL1.out]; simp; omega) (rcl_one _) ?_; intro w2 HG2 HR2))
  have hw1 : IntKind.i64.wrap ((i : Int) + 1) = (i : Int) + 1 := IntWalk.i64_in _ (by omega)
  have hb1 : (0 : Int) ≤ (i : Int) + 1 := by omega
  have htn : ((i : Int) + 1).toNat = i + 1 := by omega
  have hb3 : (i : Int) + 1 ≤ (cap : Int) + 1 := by omega
  have hb8 : i ≤ cap := by omega
  have hb9 : i + 1 ≤ cap + 1 := by omega
  have hdl : (l.drop i).length = cap - i := by rw [List.length_drop, HN.out]
  have HDL := Lib.hid hdl
  have HG0' : Hid (Whole w2.drew g 44 cur) := Lib.hid (show w2.heap[g]? = _ from (HR2.out.block g (by have h := HSZ0.out; have := HR1.out.size; have := Whole.lt HG0.out; omega) (by simpa using HGG.out)).trans ((HR0.out.block g (Whole.lt HG0.out) (by simp)).trans HG0.out))
  have HL2 : Hid ((splice C1 (i * 3) (rcl [r])).length = NC * 3) := Lib.hid (by rw [splice_len _ _ _ (by rw [rcl_len, HL1.out]; simp; omega), HL1.out])
  clear hdl
  go_region_law (refine step_copyK rfl _ _ 22 22 rfl 44 Try.underlying22 3 HSZ.out G ((i + 1) * 3) (cap - i) (NC - (i + 1)) ⟨g, i * 3, none⟩ (cap - i) (cap - i) (by simp [Act.eval, Act.put]) (by simp [Act.eval, Act.put]) (splice C1 (i * 3) (rcl [r])) 44 HG2.out (rcl (l.drop i)) (cap - i) (by simp) (by rw [rcl_len, HDL.out]) (fun j v hj => by rw [add_none]; exact tail_cells HG0'.out HT.out j v hj) (by rw [rcl_len, HDL.out, HL2.out]; omega) (rcl_one _) ?_; intro w3 HG3 HR3)
  clear hw1
  go_wp2_with fail
  go_ret
  refine ⟨_, rfl, own_whole HG3.out hbG (by omega) hle (by rw [splice_len _ _ _ (by rw [rcl_len, HDL.out, HL2.out]; omega), HL2.out]) (by rw [List.length_append, List.length_take, List.length_cons, HDL.out, HN.out]; omega) ?_, grown_new (grown_new HR1.out (by rw [HSZ0.out]; omega) HR2.out) (by rw [HSZ0.out]; omega) (drew_grown HR3.out), fun x hx => .inr (by injection hx with hx; rw [← hx]; exact Nat.le_of_eq HSZ0.out)⟩
  rw [put_take HT1.out (by rw [rcl_len, HDL.out, HL1.out]; omega) (by rw [rcl_len, HDL.out]; omega), rcl_app]
  simp [rcl]
end Go.Proofs.Ytgobbeommjjlfaa
