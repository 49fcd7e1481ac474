/- Walk: the law on whole units that add up. -/
import Derived.Test.YtigohhliblgdhabDoorTotM
import Derived.Test.YtigohhliblgdhabDoorAmtAwake
import Derived.Test.YtigohhliblgdhabDoorLawKit
namespace Go.Proofs.YtigohhliblgdhabDoor
open Go.RowKit St

theorem ints_row' {w : World} {a : Option Addr} {len cap : Nat} {zs : List Int} (h : IsRow .i64 w a len cap zs) : Ints w a len (zs.take len) := by
  rcases h with ⟨rfl, rfl, rfl, rfl⟩ | ⟨x, rfl, hl, hm, hz, hc, hw⟩
  · exact ⟨rfl, by simp, fun k hk => absurd hk (by omega)⟩
  · refine ⟨by rw [List.length_take]; omega, fun z hz' => i64_bounds (hw z (List.mem_of_mem_take hz')), fun k hk => ?_⟩
    obtain ⟨b, off, rfl, hb, hc'⟩ := row_cells hc (by omega)
    refine ⟨b, off, rfl, hb, ?_⟩
    have e : (zs.take len)[k]?.getD 0 = zs.getD k 0 := by rw [List.getElem?_take_of_lt hk]; simp [List.getD]
    rw [e]
    exact hc' k (by omega)
theorem ints_own' {w : World} {base e : Nat} {v : Value} {n : Nat} {zs : List Int} (hz : ∀ z ∈ zs, -9223372036854775808 ≤ z ∧ z ≤ 9223372036854775807) (hl : zs.length = n)
    (h : w.ownsRow base e 1 v n (zs.map (Value.int .i64))) : ∃ A c, v = .slice A n c ∧ Ints w A n zs := by
  obtain ⟨A, c, rfl, _, hc⟩ := own_form h
  refine ⟨A, c, rfl, hl, hz, fun k hk => ?_⟩
  obtain ⟨g, rfl, _, hg, hcell⟩ := hc (by omega)
  refine ⟨g, 0, rfl, hg, ?_⟩
  rw [Nat.zero_add, hcell k hk, List.getElem?_map, List.getElem?_eq_getElem (by omega)]
  rfl
theorem part_bound {P : List Int} (h : ∀ i, i < P.length → -112589990685 ≤ P[i]?.getD 0 ∧ P[i]?.getD 0 ≤ 112589990685) (k : Nat) (hk : k ≤ P.length) : -112589990685 * (k : Int) ≤ (P.take k).sum ∧ (P.take k).sum ≤ 112589990685 * (k : Int) := by
  induction k with
  | zero => simp
  | succ k ih =>
    have h1 := ih (by omega)
    have h2 := h k (by omega)
    rw [take_step P k (by omega), List.sum_append]
    simp only [List.sum_cons, List.sum_nil]
    omega

set_option maxHeartbeats 4000000 in
theorem walkTotalsFew (A : Option Addr) (n c : Nat) (zs : List Int) (w : World) (hH : Has w A n c (zs.map (Value.int .i64))) (hI : Ints w A n zs) (hn : n ≤ 200) (hP : Pows w) (hz : 0 < w.heap.size) :
    Calls Tryd.prog 5 #[.slice A n c] w fun e w' => e = .returned (.bool true) ∧ Below w.heap.size w w' := by
  obtain ⟨i0, hi0, hz0, hz1, hz2⟩ := info_parts intInfo
  have hb0 : Below w.heap.size w (w.alloc (.cells #[] 3)) := (Below.refl _ _).alloc (Nat.le_refl _) _
  have HH := Lib.hid (hH.below hb0); clear hH
  have HI := Lib.hid hI; clear hI
  have HP := Lib.hid hP; clear hP
  have hs1 : ¬ (200 : Int) < n := by omega
  go_enter Tryd.func5, Tryd.ntmps5
  go_wp2
  go_loop [3, 5] (fun v i => ∃ k : Nat, k ≤ n ∧ i = .int .i64 k ∧ (zs.take k).all okA = true ∧ v = .int .i64 (zs.take k).sum) (fun _ i => n - (intOf i).toNat)
  case atStart => exact ⟨0, by omega, rfl, rfl, rfl⟩
  case round =>
    obtain ⟨k, hk, rfl, hall, rfl⟩ := hrel
    have hsb := sum_bound hall
    have hzl : zs.length = n := HI.out.1
    have htl : (zs.take k).length = k := by rw [List.length_take]; omega
    rw [htl] at hsb
    have H := Lib.hid hall; clear hall
    by_cases hlt : k < n
    · obtain ⟨b, off, rfl, hbl, hc⟩ := HI.out.2.2 k hlt
      have hr := HI.out.range k hlt
      have hts := take_step zs k (by omega)
      have hlt' : (k : Int) < (n : Int) := by omega
      generalize zs[k]?.getD 0 = z at *
      have HT := Lib.hid hts
      clear hts hzl htl
      cases hok : okA z with
      | false =>
        go_wp2_with (first
          | (go_at_call 10; refine (refValid_any _ _).mono ?_; rintro e w1 ⟨rfl, rfl⟩)
          | (go_at_call 11; refine (awake_any _ HP.out hz).mono ?_; rintro e w4 ⟨rfl, hb4⟩))
        go_ret
        exact ⟨rfl, hb4⟩
      | true =>
        have hzb := okA_iff.1 hok
        obtain ⟨t, ht⟩ : ∃ t, (zs.take k).sum = t := ⟨_, rfl⟩
        rw [ht] at hsb ⊢
        have HS := Lib.hid ht; clear ht
        have HO := Lib.hid hok
        go_wp2_with (go_at_call 10; refine (refValid_any _ _).mono ?_; rintro e w1 ⟨rfl, rfl⟩)
        go_round
        case rel => exact ⟨k + 1, by omega, by go_num, by rw [HT.out, List.all_append, H.out]; simp [HO.out], by rw [HT.out, List.sum_append, HS.out]; simp⟩
        case measure => simp [intOf]; omega
    · obtain rfl : k = n := by omega
      have htk : zs.take k = zs := List.take_of_length_le (by omega)
      rw [htk] at hsb ⊢
      have HOK : Hid (zs.all okA = true) := Lib.hid (by have := H.out; rwa [htk] at this)
      obtain ⟨S, hS⟩ : ∃ S, zs.sum = S := ⟨_, rfl⟩
      rw [hS] at hsb ⊢
      have HSS := Lib.hid hS
      clear htk htl hS H
      go_wp2_with (at_builtin; refine wpList_append_has rfl (.tmp 32) (.tmp 33) 28 rfl w.heap.size 3 i0 (.int .i64 0) 8 Tryd.underlying28 hi0 hz0 hz1 hz2 rfl _ 0 [] rfl (own_lit _ _) A k c _ rfl HH.out (by unfold maxLen; omega) (by omega) (by simp) ?_; intro v1 w1 hown1 hg1; have hb1 : Below w.heap.size w w1 := (hb0.grown hg1 (by simp) (fun g hg' => by cases hg'; exact Nat.le_refl _)))
      simp only [Nat.zero_add, List.nil_append] at hown1
      obtain ⟨A1, c1, rfl, hI1⟩ := ints_own' HI.out.2.1 HI.out.1 hown1
      clear hown1 hg1
      refine (round_any A1 k c1 zs w1 hI1 (by omega) HOK.out).mono ?_
      rintro e w2 ⟨C, m, rfl, h1, h2, h3, h4, h5⟩
      obtain ⟨p1, p2⟩ := parts_ok hzl h1 h2 h3 HOK.out
      have hb2 : Below w.heap.size w w2 := hb1.trans (h5.mono hb1.size)
      have hpl : (addL (zs.map (· / 10000)) ((nats C).take m)).length = k := by rw [addL_length, List.length_map]; exact hzl
      obtain ⟨G, hG⟩ : ∃ G, w1.heap.size = G := ⟨_, rfl⟩
      rw [hG] at h4 ⊢
      have HC := Lib.hid (hi_of_own h4 hpl)
      generalize addL (zs.map (· / 10000)) ((nats C).take m) = P at *
      have HPL := Lib.hid hpl
      have HPS := Lib.hid p1
      have HPP := Lib.hid p2
      have HB := Lib.hid hb2
      clear hI1 h1 h2 h3 h4 h5 p1 p2 hpl hb1 hb2 hb0 HH hG
      go_wp2
      go_loopw [4, 7] (fun sv i wr => ∃ j q : Nat, j ≤ k ∧ i = .int .i64 j ∧ sv = .int .i64 (P.take j).sum ∧ wr = w2.drewN q) (fun _ i _ => k - (intOf i).toNat)
      case atStart => exact ⟨0, 0, by omega, rfl, by simp, rfl⟩
      case round =>
        obtain ⟨j, q, hj, rfl, rfl, rfl⟩ := hrel
        have hpb := part_bound (P := P) (fun i hi => by obtain ⟨y, e, a, b, _⟩ := HPP.out i (by rw [← HPL.out]; exact hi); omega) j (by rw [HPL.out]; exact hj)
        by_cases hlj : j < k
        · obtain ⟨b, off, rfl, hbl, hc⟩ := HI.out.2.2 j hlj
          have hc2 : (w2.drewN q).cell? ⟨b, off + j, none⟩ = some (.int .i64 (zs[j]?.getD 0)) := (HB.out.cell (p := ⟨b, off + j, none⟩) hbl).trans hc
          obtain ⟨y, hy, y1, y2, y3, y4⟩ := HPP.out j hlj
          have hc3 : (w2.drewN q).cell? ⟨G, j, none⟩ = some (.int .i64 y) := by
            have := (HC.out j (by rw [HPL.out]; exact hlj)).1
            rw [show P.getD j 0 = y by rw [← hy]; simp [List.getD]] at this
            exact this
          have hts := take_step P j (by rw [HPL.out]; exact hlj)
          rw [hy] at hts
          have HTS := Lib.hid hts
          have hlj' : (j : Int) < (k : Int) := by omega
          generalize zs[j]?.getD 0 = z at *
          obtain ⟨T, hT⟩ : ∃ T, (P.take j).sum = T := ⟨_, rfl⟩
          rw [hT] at hpb ⊢
          have HTT := Lib.hid hT
          clear hT hts hy hc
          have y3' : ¬ z - y * 10000 ≤ -10000 := by omega
          have y4' : ¬ 10000 ≤ z - y * 10000 := by omega
          have y1' : ¬ y < -1125899906842624 := by omega
          have y2' : ¬ 1125899906842624 < y := by omega
          obtain ⟨wq, hwq⟩ : ∃ wq, w2.drewN q = wq := ⟨_, rfl⟩
          rw [hwq] at hc2 hc3 ⊢
          have HWQ := Lib.hid hwq
          clear hwq
          go_wp2
          go_quiet (fail)
          go_wp2
          go_roundw
          case rel => exact ⟨j + 1, _, by omega, by go_num, by rw [HTS.out, List.sum_append, HTT.out]; simp, by rw [← HWQ.out]; rw [World.drewN_drewN]⟩
          case measure => simp [intOf]; omega
        · obtain rfl : j = k := by omega
          have htk : P.take j = P := List.take_of_length_le (by rw [HPL.out]; omega)
          have hfin : P.sum = rndV S := by rw [HPS.out, HSS.out]
          rw [htk, hfin]
          have HR := Lib.hid (rounded_any S (by omega))
          generalize rndV S = R at *
          have HP1 := Lib.hid (HP.out.below hz (below_drewN HB.out q))
          have hbq := below_drewN HB.out q
          have hz1' : 0 < (w2.drewN q).heap.size := Nat.lt_of_lt_of_le hz hbq.size
          clear htk hfin hpb
          go_wp2_with (first
            | (go_at_call 12; refine (HR.out _).mono ?_; rintro e w5 ⟨rfl, rfl⟩)
            | (go_at_call 11; refine (awake_any _ HP1.out hz1').mono ?_; rintro e w4 ⟨rfl, hb4⟩))
          go_ret
          exact ⟨rfl, hbq.trans (hb4.mono hbq.size)⟩
set_option maxHeartbeats 1000000 in
theorem walkAmountTotals (A : Option Addr) (n c : Nat) (zs : List Int) (w : World) (hr : IsRow .i64 w A n c zs) (hn : n * 8 ≤ 140737488351232) (hP : Pows w) (hz : 0 < w.heap.size) :
    Calls Tryd.prog 5 #[.slice A n c] w fun e w' => e = .returned (.bool true) ∧ Below w.heap.size w w' := by
  by_cases h : n ≤ 200
  · exact walkTotalsFew A n c _ w (has_row hr) (ints_row' hr) h hP hz
  · have hs1 : (200 : Int) < n := by omega
    clear hr h
    go_enter Tryd.func5, Tryd.ntmps5
    go_wp2_with (go_at_call 11; refine (awake_any _ hP hz).mono ?_; rintro e w4 ⟨rfl, hb4⟩)
    go_ret
    exact ⟨rfl, hb4⟩
end Go.Proofs.YtigohhliblgdhabDoor
