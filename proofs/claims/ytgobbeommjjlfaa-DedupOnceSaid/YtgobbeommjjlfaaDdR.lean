/- Walks: a part of a list of the call's own is replaced by a range. -/
import Derived.Test.YtgobbeommjjlfaaDdI
namespace Go.Proofs.Ytgobbeommjjlfaa
open Go.RowKit

theorem zrg_one : ∀ v ∈ (Value.agg #[.int .i64 0, .int .i64 0, .int .i64 0]).cells, v.oneCell' = true := by
  intro v hv
  have hv : v ∈ #[Value.int .i64 0, .int .i64 0, .int .i64 0] := hv
  simp at hv
  subst hv; rfl
set_option maxRecDepth 100000 in
set_option maxHeartbeats 4000000 in
theorem replace_eq (base : Nat) (A : Option Addr) (n c i vb : Nat) (w : World) (row : Option Nat) (m : Nat) (L : List Rg) (hin : i ≤ n) (hnc : n ≤ c) (h6 : n ≤ 1000000)
    (hI : Calls Try.prog 43 #[.slice A n c, .int .i64 i, .slice (some ⟨vb, 0, none⟩) 1 1] w (InsOut base row m L w)) :
    Calls Try.prog 40 #[.slice A n c, .int .i64 i, .int .i64 i, .slice (some ⟨vb, 0, none⟩) 1 1] w (InsOut base row m L w) := by
  have HI := Lib.hid hI
  clear hI
  go_enter Try.func40, Try.ntmps40
  go_wp2_with (go_at_call 43; (with_reducible refine HI.out.mono ?_); rintro e w' ⟨v', rfl, h1, h2⟩)
  all_goals
    go_ret
    exact ⟨v', rfl, h1, h2⟩
set_option maxRecDepth 100000 in
set_option maxHeartbeats 4000000 in
theorem replace_end (base g cap n i vb : Nat) (cur : List Value) (l : List Rg) (r : Rg) (w : World) (hg : Whole w g 44 cur) (hb : base ≤ g) (hin : i < n) (hnc : n ≤ cap) (hm : cap ≤ maxLen) (hcs : cur.length = cap * 3) (hn : l.length = n) (ht : cur.take (n * 3) = rcl l)
    (h6 : n ≤ 1000000) (hB : Blk w vb 44 (rgv r)) :
    Calls Try.prog 40 #[.slice (some ⟨g, 0, none⟩) n cap, .int .i64 i, .int .i64 n, .slice (some ⟨vb, 0, none⟩) 1 1] w (InsOut base (some g) (i + 1) (l.take i ++ [r]) w) := by
  have hm2 := hm
  unfold maxLen at hm2
  obtain ⟨i0, hi0, hz0, hz1, hz2⟩ := info_parts rangeInfo
  have hrun := fun ty => run_append_room (P := Try.prog) (w := w) 22 ty 44 i0 Try.underlying22 hi0 g i cap cur.toArray hg ⟨vb, 0, none⟩ 1 1 (rcl [r]) (by rw [hz1]; rfl) hB.src (rcl_one _) (by omega) (by rw [hz1]; simp [rcl]; omega)
  obtain ⟨W1, hW1⟩ : ∃ W1, w.setRow g (splice cur (i * 3) (rcl [r])).toArray = W1 := ⟨_, rfl⟩
  have hspl : (cur.toArray.toList.take (i * i0.size) ++ rcl [r] ++ cur.toArray.toList.drop (i * i0.size + (rcl [r]).length)) = splice cur (i * 3) (rcl [r]) := by rw [hz1]; simp [splice]
  rw [hspl, hW1] at hrun
  have HG1 : Hid (Whole W1 g 44 (splice cur (i * 3) (rcl [r]))) := Lib.hid (by rw [← hW1]; exact (show _ = _ by simpa using setRow_heap w g _ _ _ _ hg))
  have HR1 : Hid (w.grownBy W1 (some g)) := Lib.hid (by rw [← hW1]; exact grown_setRow w g _)
  have HRUN := Lib.hid hrun
  have HL1 : Hid ((splice cur (i * 3) (rcl [r])).length = cap * 3) := Lib.hid (by rw [splice_len _ _ _ (by rw [rcl_len, hcs]; simp; omega), hcs])
  have HT1 : Hid ((splice cur (i * 3) (rcl [r])).take ((i + 1) * 3) = rcl (l.take i ++ [r])) := Lib.hid (by rw [splice_upto (by omega) (by simp [rcl]; omega), cut_take ht (by omega), rcl_app])
  have HLL : Hid ((l.take i ++ [r]).length = i + 1) := Lib.hid (by rw [List.length_append, List.length_take]; simp; omega)
  have hz2' : ¬ ((i : Int) = (n : Int)) := by omega
  have hb4 : ¬ (cap = i) := by omega
  have hb7 : i ≤ cap := by omega
  clear hg hcs ht hn hrun hW1 hspl hi0 hz0 hz1 hz2 hB
  by_cases hlt : i + 1 < n
  · have hb5 : decide ((i : Int) + 1 < (n : Int)) = true := decide_eq_true (by omega)
    have hb6 : ¬ (cap = i + 1) := by omega
    have hb8 : i + 1 ≤ n := by omega
    go_enter Try.func40, Try.ntmps40
    go_wp2_with (first
      | (at_builtin; refine Lib.wpList_append_run _ rfl _ _ _ _ rfl _ _ rfl rfl _ _ (HRUN.out _) ?_)
      | (refine wpList_clearK rfl (.tmp 43) 22 44 rfl Try.underlying22 _ Try.zeroValue44 zrg_one (by decide) (some ⟨g, (i + 1) * 3, none⟩) (n - (i + 1)) (cap - (i + 1)) rfl g ((i + 1) * 3) _ 44 HG1.out (fun _ => ⟨rfl, by rw [HL1.out]; show (i + 1) * 3 + (n - (i + 1)) * 3 ≤ cap * 3; omega⟩) ?_; intro w2 C2 HG2 HC2 HR2))
    go_ret
    obtain ⟨hcl, hct⟩ : C2.length = cap * 3 ∧ C2.take ((i + 1) * 3) = rcl (l.take i ++ [r]) := by
      rcases HC2.out with ⟨h1, h2⟩ | ⟨h1, h2⟩
      · exact ⟨h1.trans HL1.out, (h2 _ (Nat.le_refl _)).trans HT1.out⟩
      · omega
    exact ⟨_, rfl, own_whole HG2.out hb (by omega) hm hcl HLL.out hct, grown_trans HR1.out HR2.out, fun x hx => .inl hx⟩
  · obtain rfl : n = i + 1 := by omega
    go_enter Try.func40, Try.ntmps40
    go_wp2_with (at_builtin; refine Lib.wpList_append_run _ rfl _ _ _ _ rfl _ _ rfl rfl _ _ (HRUN.out _) ?_)
    go_ret
    exact ⟨_, rfl, own_whole HG1.out hb (by omega) hm HL1.out HLL.out HT1.out, HR1.out, fun x hx => .inl hx⟩
set_option maxRecDepth 100000 in
set_option maxHeartbeats 4000000 in
theorem replace_mid (base g cap n i j vb : Nat) (cur : List Value) (l : List Rg) (r : Rg) (w : World) (hg : Whole w g 44 cur) (hb : base ≤ g) (hij : i < j) (hjn : j < n) (hnc : n ≤ cap) (hm : cap ≤ maxLen) (hcs : cur.length = cap * 3) (hn : l.length = n) (ht : cur.take (n * 3) = rcl l)
    (h6 : n ≤ 1000000) (hB : Blk w vb 44 (rgv r)) (hvb : vb ≠ g) (T : Nat) (hT : i + 1 + (n - j) = T) :
    Calls Try.prog 40 #[.slice (some ⟨g, 0, none⟩) n cap, .int .i64 i, .int .i64 j, .slice (some ⟨vb, 0, none⟩) 1 1] w (InsOut base (some g) T (l.take i ++ r :: l.drop j) w) := by
  have hm2 := hm
  unfold maxLen at hm2
  have hi0 : ¬ ((i : Int) = (j : Int)) := by omega
  have hi1 : ¬ ((j : Int) = (n : Int)) := by omega
  have hb4 : ¬ (cap = i) := by omega
  have hb5 : ¬ (cap = j) := by omega
  have hb6 : ¬ (cap = i + 1) := by omega
  have hb7 : i ≤ cap := by omega
  have hb8 : j ≤ n := by omega
  have hb9 : i ≤ j := by omega
  have hb10 : T ≤ cap := by omega
  have hb11 : i ≤ T := by omega
  have hb12 : i + 1 ≤ T := by omega
  have hb13 : T ≤ n := by omega
  have hsz : (Try.prog.info? 44).map (·.size) = some 3 := by
    obtain ⟨i0, hi0, h0, h1, h2⟩ := info_parts rangeInfo
    rw [hi0]; simp [h1]
  have HSZ := Lib.hid hsz
  have HG := Lib.hid hg; have HTK := Lib.hid ht; have HCS := Lib.hid hcs; have HN := Lib.hid hn; have HB := Lib.hid hB; have HVB := Lib.hid hvb; have HT := Lib.hid hT
  have hw1 : IntKind.i64.wrap ((i : Int) + 1) = (i : Int) + 1 := IntWalk.i64_in _ (by omega)
  have hw2 : (i : Int) + 1 + ((n - j : Nat) : Int) = (T : Int) := by omega
  have hw3 : IntKind.i64.wrap (T : Int) = (T : Int) := IntWalk.i64_in _ (by omega)
  clear hg ht hcs hn hB hvb hT hsz
  go_enter Try.func40, Try.ntmps40
  go_wp2_with fail
  go_quiet (fail)
  clear hw1 hw2 hw3
  have d1 : decide ((cap : Int) < (T : Int)) = false := decide_eq_false (by omega)
  have d2 : decide ((i : Int) + 1 ≤ (j : Int)) = true := decide_eq_true (by omega)
  have HGd : Hid (∀ k, Whole (w.drewN k) g 44 cur) := Lib.hid fun _ => HG.out
  have HBd : Hid (∀ k, Blk (w.drewN k) vb 44 (rgv r)) := Lib.hid fun _ => HB.out
  have HL1 : Hid ((splice cur (i * 3) (rcl [r])).length = cap * 3) := Lib.hid (by rw [splice_len _ _ _ (by rw [rcl_len, HCS.out]; simp; omega), HCS.out])
  have HDL : Hid ((l.drop j).length = n - j) := Lib.hid (by rw [List.length_drop, HN.out])
  have HSRC : Hid (∀ W, Whole W g 44 (splice cur (i * 3) (rcl [r])) → ∀ q v, (rcl (l.drop j))[q]? = some v → W.cell? ⟨g, j * 3 + q, none⟩ = some v) := Lib.hid fun W hW q v hq => by
    rw [hW.cell]
    have e : (splice cur (i * 3) (rcl [r])).drop (j * 3) = cur.drop (j * 3) := splice_drop (by rw [HCS.out]; omega) (by rw [rcl_len]; simp; omega)
    have e2 := congrArg (fun L : List Value => L[q]?) e
    simp only [List.getElem?_drop] at e2
    rw [e2]
    rw [← rcl_drop, List.getElem?_drop, ← HTK.out, List.getElem?_take] at hq
    split at hq
    · exact hq
    · cases hq
  go_wp2_with (refine wpList_copyK rfl (.tmp 95) (.tmp 96) 22 22 rfl 44 Try.underlying22 3 HSZ.out g (i * 3) (T - i) (cap - i) ⟨vb, 0, none⟩ 1 1 rfl rfl cur 44 (HGd.out _) (rcl [r]) 1 (by simp only [Nat.min_def]; split <;> omega) (by rw [rcl_len]; rfl) (Blk.src (HBd.out _)) (by rw [rcl_len, HCS.out]; simp; omega) (rcl_one _) ?_; intro w1 HG1 HR1)
  have hw1 : IntKind.i64.wrap ((i : Int) + 1) = (i : Int) + 1 := IntWalk.i64_in _ (by omega)
  have hb1 : (0 : Int) ≤ (i : Int) + 1 := by omega
  have htn : ((i : Int) + 1).toNat = i + 1 := by omega
  have hb3 : (i : Int) + 1 ≤ (T : Int) := by omega
  go_region_law (refine step_copyK rfl _ _ 22 22 rfl 44 Try.underlying22 3 HSZ.out g ((i + 1) * 3) (T - (i + 1)) (cap - (i + 1)) ⟨g, j * 3, none⟩ (n - j) (cap - j) (by simp [Act.eval, Act.put]) (by simp [Act.eval, Act.put]) (splice cur (i * 3) (rcl [r])) 44 HG1.out (rcl (l.drop j)) (n - j) (by have := HT.out; simp only [Nat.min_def]; split <;> omega) (by rw [rcl_len, HDL.out]) (fun q v hq => by rw [add_none]; exact HSRC.out w1.drew HG1.out q v hq) (by rw [rcl_len, HDL.out, HL1.out]; have := HT.out; omega) (rcl_one _) ?_; intro w2 HG2 HR2)
  clear hw1
  have HL2 : Hid ((splice (splice cur (i * 3) (rcl [r])) ((i + 1) * 3) (rcl (l.drop j))).length = cap * 3) := Lib.hid (by rw [splice_len _ _ _ (by rw [rcl_len, HDL.out, HL1.out]; have := HT.out; omega), HL1.out])
  have HT2 : Hid ((splice (splice cur (i * 3) (rcl [r])) ((i + 1) * 3) (rcl (l.drop j))).take (T * 3) = rcl (l.take i ++ r :: l.drop j)) := Lib.hid (by
    rw [put_take (cut_take HTK.out (by omega)) (by rw [rcl_len, HDL.out, HCS.out]; have := HT.out; omega) (by rw [rcl_len, HDL.out]; have := HT.out; omega), rcl_app]
    simp [rcl])
  have HLL : Hid ((l.take i ++ r :: l.drop j).length = T) := Lib.hid (by rw [List.length_append, List.length_take, List.length_cons, HDL.out, HN.out]; have := HT.out; omega)
  have HR12 : Hid (w.grownBy w2 (some g)) := Lib.hid (grown_trans (a := w) (b := w1) ⟨HR1.out.os, HR1.out.tape, HR1.out.output, HR1.out.size, HR1.out.block⟩ (drew_grown HR2.out))
  by_cases hTc : T = cap
  all_goals (first | subst hTc | have hTc' : ¬ cap = T := fun h => hTc h.symm)
  all_goals
    go_wp2_with ((refine wpList_clearK rfl (.tmp 110) 22 44 rfl Try.underlying22 _ Try.zeroValue44 zrg_one (by decide) _ _ _ rfl g (T * 3) _ 44 HG2.out (fun h => by first | (exfalso; omega) | exact ⟨rfl, by rw [HL2.out]; show T * 3 + (n - T) * 3 ≤ _; omega⟩) ?_); intro w3 C3 HG3 HC3 HR3)
    go_ret
    obtain ⟨hcl, hct⟩ : C3.length = _ * 3 ∧ C3.take (T * 3) = rcl (l.take i ++ r :: l.drop j) := by
      rcases HC3.out with ⟨h1, h2⟩ | ⟨h1, h2⟩
      · exact ⟨h1.trans HL2.out, (h2 _ (by omega)).trans HT2.out⟩
      · rw [h2]; exact ⟨HL2.out, HT2.out⟩
    exact ⟨_, rfl, own_whole HG3.out hb hb10 hm hcl HLL.out hct, grown_trans HR12.out HR3.out, fun x hx => .inl hx⟩
end Go.Proofs.Ytgobbeommjjlfaa
