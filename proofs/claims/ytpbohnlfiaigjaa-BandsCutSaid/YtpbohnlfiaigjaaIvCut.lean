/- Walk of the program: a period is divided. -/
import Derived.Test.YtpbohnlfiaigjaaIvSrt
import Derived.Test.YtpbohnlfiaigjaaIvCutM
namespace Go.Proofs.Ytpbohnlfiaigjaa
open Go.RowKit Go.Lib Go.Sort

theorem holdsI {w : World} {base g cap n : Nat} {l : List Int} (hown : w.ownsRow base 3 1 (.slice (some ⟨g, 0, none⟩) n cap) n (il l)) (hn : l.length = n) : Holds (Value.int .i64) w g 0 l.toArray := by
  intro j hj
  rw [List.size_toArray, hn] at hj
  refine ⟨?_, by rw [Nat.zero_add]; exact World.ownsRow.frozenAt hown j⟩
  rw [Nat.zero_add, World.ownsRow.cellAt hown j (by omega), il_at l j (by omega), getElem!_pos l.toArray j (by rw [List.size_toArray]; omega)]
  simp [List.getD, List.getElem?_eq_getElem (show j < l.length by omega)]
theorem irI {w : World} {g : Nat} {l m : List Int} (h : Holds (Value.int .i64) w g 0 (l ++ m).toArray) (hg : g < w.heap.size) : IR w (some ⟨g, 0, none⟩) l := by
  intro k hk
  have := (h k (by rw [List.size_toArray, List.length_append]; omega)).1
  rw [getElem!_pos _ k (by rw [List.size_toArray, List.length_append]; omega)] at this
  refine ⟨g, 0, rfl, hg, this.trans ?_⟩
  simp [List.getD, List.getElem?_eq_getElem hk, List.getElem_append_left hk]
/-- Sort, then Compact. -/
theorem sortI {w : World} {base g cap n : Nat} {l : List Int} (hown : w.ownsRow base 3 1 (.slice (some ⟨g, 0, none⟩) n cap) n (il l)) (hn : l.length = n) (hsz : n ≤ 100000) :
    Calls Try.prog 79 #[.slice (some ⟨g, 0, none⟩) n cap] w fun e w' => e = .returned (.tuple #[]) ∧ Holds (Value.int .i64) w' g 0 (l.mergeSort fun x y => decide (x ≤ y)).toArray ∧ g < w'.heap.size ∧ Go.RowKit.Below base w w' := by
  subst hn
  have hg := World.ownsRow.lt hown g rfl
  have hH := holdsI hown rfl
  refine (Try.slices_Sort_int g 0 cap l w hH hg.2 (by omega)).mono ?_
  rintro e w' ⟨rfl, q, os, rfl⟩
  have hs : (l.mergeSort fun x y => decide (x ≤ y)).toArray.size = l.toArray.size := by simp [List.length_mergeSort]
  refine ⟨rfl, holds_grow _ _ _ _ _ _ (by simp; exact hg.2) (holds_putRow _ _ _ _ l.toArray _ hH hs), by simp [grow]; omega, ?_⟩
  exact below_grow (below_putRow (below_ahead (Go.RowKit.Below.refl _ w) q) _ _ _ _ hg.1) (by simp; omega) os
theorem compI {w : World} {base g cap n : Nat} {l : List Int} (hH : Holds (Value.int .i64) w g 0 l.toArray) (hg : g < w.heap.size) (hbg : base ≤ g) (hn : l.length = n) (hsz : n ≤ 100000) (hcap : n ≤ cap) :
    Calls Try.prog 80 #[.slice (some ⟨g, 0, none⟩) n cap] w fun e w' => e = .returned (.slice (some ⟨g, 0, none⟩) (Lib.compact l).length cap) ∧ IR w' (some ⟨g, 0, none⟩) (Lib.compact l) ∧ Go.RowKit.Below base w w' := by
  subst hn
  refine (Try.slices_Compact_int g 0 cap l w hH (by omega) hcap).mono ?_
  rintro e w' ⟨rfl, q, rfl⟩
  have hl : (Lib.compact l).length ≤ l.length := by
    have h := List.length_filter_le (Lib.keeps l.toArray) (List.range l.length)
    simpa [Lib.compact, Lib.compactUpTo] using h
  refine ⟨rfl, irI (m := List.replicate (l.length - (Lib.compact l).length) 0) (holds_putRow _ _ _ _ l.toArray _ hH ?_) (by simp; exact hg), below_putRow (below_ahead (Go.RowKit.Below.refl _ w) q) _ _ _ _ hbg⟩
  simp; omega
theorem filter_step {l : List Int} {k : Nat} {p : Int → Bool} (h : k < l.length) (b : Int) : [b] ++ (l.take (k + 1)).filter p = [b] ++ (l.take k).filter p ++ if p (l.getD k 0) then [l.getD k 0] else [] := by
  rw [List.take_succ_eq_append_getElem h, List.filter_append]
  simp [List.getD, List.getElem?_eq_getElem h, List.filter_cons]
theorem filter_len (l : List Int) (k : Nat) (p : Int → Bool) (b : Int) : ([b] ++ (l.take k).filter p).length ≤ k + 1 := by
  have h1 := List.length_filter_le p (l.take k)
  have h2 : (l.take k).length ≤ k := List.length_take_le _ _
  simp; omega
theorem prs_step {l : List Int} {k : Nat} (h : k < l.length) (a : Int) : prs a (l.take (k + 1)) = prs a (l.take k) ++ [((l.take k).getLastD a, l.getD k 0)] ∧ (l.take (k + 1)).getLastD a = l.getD k 0 := by
  have e : l.take (k + 1) = l.take k ++ [l.getD k 0] := by
    rw [List.take_succ_eq_append_getElem h]; simp [List.getD, List.getElem?_eq_getElem h]
  rw [e]
  exact ⟨prs_snoc a _ _, by simp⟩
theorem cutV_yes {a b : Int} (h : vl (a, b) = true) (l : List Int) : cutV a b l = prs a (cutE a b l) := by unfold cutV; rw [if_pos h]
theorem cutV_no {a b : Int} (h : vl (a, b) = false) (l : List Int) : cutV a b l = [] := by unfold cutV; rw [if_neg (by rw [h]; simp)]
set_option maxHeartbeats 8000000 in
theorem cut_any (a b : Int) (A : Option Addr) (n c : Nat) (l : List Int) (w : World) (hA : IR w A l) (hn : l.length = n) (hc : n ≤ c) (h5 : n ≤ 10000) :
    Calls Try.prog 53 #[.agg #[.int .i64 a, .int .i64 b], .slice A n c] w (PdOut (cutV a b l) w) := by
  obtain ⟨i0, hi0, hz0, hz1, hz2⟩ := info_parts periodInfo
  obtain ⟨j0, hj0, hy0, hy1, hy2⟩ := info_parts intInfo
  have HB := Lib.hid (Blk.new w 37 #[.int .i64 a, .int .i64 b])
  have HA := Lib.hid hA; have HN := Lib.hid hn
  clear hA hn
  cases hv : vl (a, b)
  · rw [cutV_no hv]
    have HV := Lib.hid (valid_is a b _ hv)
    clear hv
    go_enter Try.func53, Try.ntmps53
    go_wp2_with (go_at_call 52; (with_reducible refine (HV.out _).mono ?_); rintro e w1 ⟨rfl, hb1⟩; have hb : Go.RowKit.Below w.heap.size w w1 := ((Go.RowKit.Below.refl _ w).alloc (Nat.le_refl _) _).trans (hb1.mono (by simp)))
    go_ret
    exact ⟨none, 0, rfl, Nat.le_refl _, PR.nil, hb⟩
  · rw [cutV_yes hv]
    have HV := Lib.hid (valid_is a b _ hv)
    have HC := Lib.hid (cut_both a b l)
    have HCL := Lib.hid (cutE_length a b l)
    clear hv
    generalize cutE a b l = L at HC HCL ⊢
    go_enter Try.func53, Try.ntmps53
    go_wp2_with (go_at_call 52; (with_reducible refine (HV.out _).mono ?_); rintro e w1 ⟨rfl, hb1⟩; have hb : Go.RowKit.Below w.heap.size w w1 := ((Go.RowKit.Below.refl _ w).alloc (Nat.le_refl _) _).trans (hb1.mono (by simp)); have hB1 := HB.out.below hb1 (by simp); obtain ⟨c0, c1⟩ := hB1.two; clear hb1)
    have hs := hb.size
    have hown0 := World.ownsRow_lit (base := w.heap.size + 1) (e := 3) (size := 1) w1 #[.int .i64 b] 1 (by have := hB1.lt; omega) (by decide) rfl
    clear c0 c1
    go_loopw [5, 20] (fun v i wr => ∃ (k : Nat) (q : Nat), k ≤ n ∧ i = .int .i64 k ∧ q ≤ k + 1 ∧ Hid (([b] ++ (l.take k).filter fun t => decide (a < t ∧ t < b)).length = q) ∧ wr.ownsRow (w.heap.size + 1) 3 1 v q (il ([b] ++ (l.take k).filter fun t => decide (a < t ∧ t < b))) ∧ Go.RowKit.Below w.heap.size w wr ∧ Blk wr w.heap.size 37 #[.int .i64 a, .int .i64 b]) (fun _ i _ => n - (intOf i).toNat)
    case atStart => exact ⟨0, 1, by omega, rfl, by omega, Lib.hid (by simp), by simpa [il] using hown0, hb.alloc hs _, hB1.alloc _⟩
    case round =>
      clear hb hB1 hs hown0
      obtain ⟨k, q, hk, rfl, hq, HQ, hown, hb, hB⟩ := hrel
      have hs := hb.size
      by_cases hlt : k < n
      · obtain ⟨bk, off, rfl, hbl, d0⟩ := HA.out k (by rw [HN.out]; exact hlt)
        have e0 := (hb.cell (p := ⟨bk, off + k, none⟩) hbl).trans d0
        have HF := Lib.hid (filter_step (p := fun t => decide (a < t ∧ t < b)) (show k < l.length by rw [HN.out]; exact hlt) b)
        have hlt' : (k : Int) < (n : Int) := by omega
        have h0' : (0 : Int) ≤ (k : Int) := by omega
        obtain ⟨y, hy⟩ : ∃ y, l.getD k 0 = y := ⟨_, rfl⟩
        rw [hy] at e0 HF
        obtain ⟨c0, c1⟩ := hB.two
        clear hy d0
        by_cases hay : a < y
        · have d1 : decide (a < y) = true := decide_eq_true hay
          by_cases hyb : y < b
          · have d2 : decide (y < b) = true := decide_eq_true hyb
            have HF2 : Hid ([b] ++ (l.take (k + 1)).filter (fun t => decide (a < t ∧ t < b)) = [b] ++ (l.take k).filter (fun t => decide (a < t ∧ t < b)) ++ [y]) := Lib.hid (by rw [HF.out, if_pos (by simp [hay, hyb])])
            clear HF hay hyb
            go_wp2_with (at_builtin; refine wpList_append_own _ rfl (.tmp 34) (.tmp 36) 30 rfl (w.heap.size + 1) 3 j0 (.int .i64 0) 1 8 Try.underlying30 hj0 hy0 hy1 hy2 rfl (by decide) _ _ _ rfl (World.ownsRow.alloc hown _) ⟨wr.heap.size, 0, none⟩ 1 1 [.int .i64 y] rfl rfl (cell_one_new' _ _ _) (by intro u hu; simp at hu; subst hu; rfl) (by unfold maxLen; omega) (by omega) (by have := hB.lt; simp; omega) ?_; intro v4 w4 hown4 hg4 _; have hb4 : Go.RowKit.Below w.heap.size w w4 := (hb.alloc hs _).grown hg4 (by simp; omega) (fun g hg' => by have := (World.ownsRow.lt hown g hg').1; omega); have hB4 := (hB.alloc (.cells #[.int .i64 y] 3)).grown hg4 (own_not hown (by omega)))
            go_roundw
            case rel => exact ⟨k + 1, q + 1, by omega, by go_num, by omega, Lib.hid (by rw [HF2.out, List.length_append, HQ.out]; rfl), by rw [HF2.out, il_append]; exact hown4, hb4, hB4⟩
            case measure => simp [intOf]; omega
          · have d2 : decide (y < b) = false := decide_eq_false hyb
            have HF2 : Hid ([b] ++ (l.take (k + 1)).filter (fun t => decide (a < t ∧ t < b)) = [b] ++ (l.take k).filter (fun t => decide (a < t ∧ t < b))) := Lib.hid (by rw [HF.out, if_neg (by simp [hyb]), List.append_nil])
            clear HF hay hyb
            go_wp2_with fail
            go_roundw
            case rel => exact ⟨k + 1, q, by omega, by go_num, by omega, Lib.hid (by rw [HF2.out, HQ.out]), by rw [HF2.out]; exact hown, hb, hB⟩
            case measure => simp [intOf]; omega
        · have d1 : decide (a < y) = false := decide_eq_false hay
          have HF2 : Hid ([b] ++ (l.take (k + 1)).filter (fun t => decide (a < t ∧ t < b)) = [b] ++ (l.take k).filter (fun t => decide (a < t ∧ t < b))) := Lib.hid (by rw [HF.out, if_neg (by simp [hay]), List.append_nil])
          clear HF hay
          go_wp2_with fail
          go_roundw
          case rel => exact ⟨k + 1, q, by omega, by go_num, by omega, Lib.hid (by rw [HF2.out, HQ.out]), by rw [HF2.out]; exact hown, hb, hB⟩
          case measure => simp [intOf]; omega
      · obtain rfl : k = n := by omega
        have hq1 : 1 ≤ q := by rw [← HQ.out]; simp
        have HT : Hid (l.take k = l) := Lib.hid (by rw [← HN.out, List.take_length])
        rw [HT.out] at HQ hown
        obtain ⟨A1, c1, rfl, hc1, hm1, hpos⟩ := own_any hown
        obtain ⟨g, rfl, hg1, hg2⟩ := hpos (by omega)
        have HSo := Lib.hid (sortI hown HQ.out (by omega))
        have HSl : Hid ((([b] ++ l.filter fun t => decide (a < t ∧ t < b)).mergeSort fun x y => decide (x ≤ y)).length = q) := Lib.hid (by rw [List.length_mergeSort, HQ.out])
        generalize ([b] ++ l.filter fun t => decide (a < t ∧ t < b)).mergeSort (fun x y => decide (x ≤ y)) = S at *
        have HBk := Lib.hid hB
        obtain ⟨N2, hN2⟩ : ∃ N2, L.length = N2 := ⟨_, rfl⟩
        have HN2 := Lib.hid hN2
        have hlen2 : N2 ≤ k + 1 := by have := HCL.out; have := HN.out; omega
        clear hN2
        clear hpos hown hm1 hB HT HQ
        go_wp2_with (first
          | (go_at_call 79; (with_reducible refine HSo.out.mono ?_); rintro e w2 ⟨rfl, hH2, hgs2, hb2⟩; have hB2 := HBk.out.below hb2 (by omega); have hbw2 : Go.RowKit.Below w.heap.size w w2 := hb.trans (hb2.mono (by omega)); have HCo := Lib.hid (compI hH2 hgs2 hg1 HSl.out (by omega) hc1); rw [HC.out, HN2.out] at HCo; obtain ⟨c0, c1'⟩ := hB2.two; have HB2 := Lib.hid hB2; clear hH2 hb2 hB2 hb)
          | (go_at_call 80; (with_reducible refine HCo.out.mono ?_); rintro e w3 ⟨rfl, hI3, hb3⟩; have hB3 := HB2.out.below hb3 (by omega); have hbw3 : Go.RowKit.Below w.heap.size w w3 := hbw2.trans (hb3.mono (by omega)); have HI3 := Lib.hid hI3; have HB3 := Lib.hid hB3; clear hI3 hb3 c0 c1' hbw2; obtain ⟨c0, c1'⟩ := hB3.two; clear hB3))
        have hs3 := hbw3.size
        clear c0 c1' hgs2 hs HSo HCo HBk HB2
        go_loopw [8, 9, 46] (fun v fr i wr => ∃ (j : Nat), j ≤ N2 ∧ i = .int .i64 j ∧ fr = .int .i64 ((L.take j).getLastD a) ∧ wr.ownsRow w3.heap.size 37 2 v j (cl (prs a (L.take j))) ∧ Go.RowKit.Below w3.heap.size w3 wr) (fun _ _ i _ => N2 - (intOf i).toNat)
        case atStart => exact ⟨0, by omega, rfl, rfl, by rw [List.take_zero]; exact World.ownsRow_nil _ _ _ _, Go.RowKit.Below.refl _ _⟩
        case round =>
          obtain ⟨j, hj, rfl, rfl, hown, hbr⟩ := hrel
          have hsr := hbr.size
          by_cases hjt : j < N2
          · obtain ⟨bk, off, hge, hbl, d0⟩ := HI3.out j (by rw [HN2.out]; exact hjt)
            obtain ⟨rfl, rfl⟩ : g = bk ∧ 0 = off := by injection hge with h; injection h with h1 h2; exact ⟨h1, h2⟩
            have e0 := (hbr.cell (p := ⟨g, 0 + j, none⟩) hbl).trans d0
            obtain ⟨hp1, hp2⟩ := prs_step (show j < L.length by rw [HN2.out]; exact hjt) a
            have HP1 := Lib.hid hp1; have HP2 := Lib.hid hp2
            clear hp1 hp2 d0 hge
            have hjt' : (j : Int) < (N2 : Int) := by omega
            have hj0' : (0 : Int) ≤ (j : Int) := by omega
            rw [Nat.zero_add] at e0
            generalize (L.take j).getLastD a = fr at *
            generalize L.getD j 0 = y at *
            go_wp2_with (at_builtin; refine wpList_append_own _ rfl (.tmp 50) (.tmp 54) 69 rfl w3.heap.size 37 i0 (.agg #[.int .i64 0, .int .i64 0]) 2 16 Try.underlying69 hi0 hz0 hz1 hz2 rfl (by decide) _ _ _ rfl (World.ownsRow.alloc hown _) ⟨wr.heap.size, 0, none⟩ 1 1 [.int .i64 fr, .int .i64 y] rfl rfl (cell_two_new' _ _ _ _) (by intro u hu; simp at hu; rcases hu with rfl | rfl <;> rfl) (by unfold maxLen; omega) (by omega) (by simp; omega) ?_; intro v4 w4 hown4 hg4 _; have hb4 : Go.RowKit.Below w3.heap.size w3 w4 := (hbr.alloc hsr _).grown hg4 (by simp; omega) (fun g hg' => by have := (World.ownsRow.lt hown g hg').1; omega))
            go_roundw
            case rel => exact ⟨j + 1, by omega, by go_num, by rw [HP2.out], by rw [HP1.out, cl_append]; exact hown4, hb4⟩
            case measure => simp [intOf]; omega
          · obtain rfl : j = N2 := by omega
            have HT2 : Hid (L.take j = L) := Lib.hid (by rw [← HN2.out, List.take_length])
            rw [HT2.out] at hown
            go_wp2
            go_ret
            obtain ⟨A', c2, e1, e2, _, e3⟩ := pr_own hown (by rw [prs_length, HN2.out])
            have hpl : (prs a L).length = j := by rw [prs_length, HN2.out]
            exact ⟨A', c2, by simp [e1, hpl], by rw [hpl]; exact e2, e3, hbw3.trans (hbr.mono hs3)⟩
end Go.Proofs.Ytpbohnlfiaigjaa
