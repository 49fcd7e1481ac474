/- Walk: the law on divided amounts: the parts add up, each is next to its exact share. -/
import Derived.Test.YtopngdjhnljmfaaDoorSplit
import Derived.Test.YtopngdjhnljmfaaDoorRefDiv
import Derived.Test.YtopngdjhnljmfaaDoorAmtAwake
import Derived.Test.YtopngdjhnljmfaaDoorAmtLawRounds
namespace Go.Proofs.YtopngdjhnljmfaaDoor
open Go.RowKit St

theorem tw_zero {a : Int} {ws : List Int} (h : twE a ws = 0) : ws.length ≤ 64 ∧ okA a = true ∧ ws.all okU = true ∧ ws.sum ≠ 0 := by
  by_cases h1 : ws.length ≤ 64
  · cases h2 : okA a
    · rw [(tw_badA h1 h2).1] at h; cases h
    · cases h3 : ws.all okU
      · rw [(tw_badW h1 h2 h3).1] at h; cases h
      · by_cases h4 : ws.sum = 0
        · rw [(tw_none h1 h2 h3 h4).1] at h; cases h
        · exact ⟨h1, rfl, rfl, h4⟩
  · rw [(tw_long (by omega)).1] at h; cases h
theorem abs_sum {l : List Int} {B : Int} (h : ∀ x ∈ l, -B ≤ x ∧ x ≤ B) : -(B * (l.length : Int)) ≤ l.sum ∧ l.sum ≤ B * (l.length : Int) := by
  refine ⟨?_, sum_le_of fun x hx => (h x hx).2⟩
  induction l with
  | nil => simp
  | cons x l ih =>
    have h1 := h x (List.mem_cons_self ..)
    have h2 := ih (fun y hy => h y (List.mem_cons_of_mem _ hy))
    rw [List.sum_cons, List.length_cons]
    rw [show ((l.length + 1 : Nat) : Int) = (l.length : Int) + 1 by omega, Int.mul_add, Int.mul_one]
    omega
theorem neg_sum (P : List Int) : (P.map (fun x => -x)).sum = -P.sum := by
  induction P with
  | nil => rfl
  | cons x l ih => rw [List.map_cons, List.sum_cons, List.sum_cons, ih]; omega
set_option maxHeartbeats 1000000 in
theorem split_bad (a : Int) (A : Option Addr) (n c : Nat) (zs : List Int) (w : World) (hA : Ints w A n zs) (hn : n ≤ 4096) (E : Int) (hE : twE a zs = E) (h0 : E ≠ 0) :
    Calls Tryd.prog 6 #[.int .i64 a, .slice A n c] w fun e w' => e = .returned (.tuple #[.slice none 0 0, .int .i64 E]) ∧ w = w' := by
  have HT0 := totalWeight_any a A n c zs w hA (by unfold maxLen; omega)
  rw [hE] at HT0
  have HT := Lib.hid HT0
  have hd : decide (E = 0) = false := decide_eq_false h0
  clear HT0 hA hE
  go_enter Tryd.func6, Tryd.ntmps6
  go_wp2_with (go_at_call 15; refine HT.out.mono ?_; rintro e w1 ⟨rfl, rfl⟩)
  go_ret2
  exact ⟨rfl, rfl⟩
set_option maxRecDepth 100000 in
set_option maxHeartbeats 8000000 in
theorem walkSplitBad (a : Int) (A : Option Addr) (n c : Nat) (zs : List Int) (w : World) (hH : Has w A n c (zs.map (Value.int .i64))) (hI : Ints w A n zs) (hn : n ≤ 200) (hP : Pows w) (hz : 0 < w.heap.size) (E : Int) (hE : twE a zs = E) (h0 : E ≠ 0) :
    Calls Tryd.prog 4 #[.int .i64 a, .slice A n c] w fun e w' => e = .returned (.bool true) ∧ Below w.heap.size w w' := by
  obtain ⟨i0, hi0, hz0, hz1, hz2⟩ := info_parts intInfo
  have hb0 : Below w.heap.size w (w.alloc (.cells #[] 3)) := (Below.refl _ _).alloc (Nat.le_refl _) _
  have HH := Lib.hid (hH.below hb0); clear hH
  have HI := Lib.hid hI; clear hI
  have HP := Lib.hid hP; clear hP
  have HE := Lib.hid hE; clear hE
  have hs1 : ¬ (200 : Int) < n := by omega
  have hd : decide (E = 0) = false := decide_eq_false h0
  go_enter Tryd.func4, Tryd.ntmps4
  go_wp2_with (first
    | (at_builtin; refine wpList_append_has rfl (.tmp 21) (.tmp 22) 22 rfl w.heap.size 3 i0 (.int .i64 0) 8 Tryd.underlying22 hi0 hz0 hz1 hz2 rfl _ 0 [] rfl (own_lit _ _) A n c _ rfl HH.out (by unfold maxLen; omega) (by omega) (by simp) ?_; intro v1 w1 hown1 hg1; have hb1 : Below w.heap.size w w1 := (hb0.grown hg1 (by simp) (fun g hg' => by cases hg'; exact Nat.le_refl _)); obtain ⟨A1, c1, rfl, hI1⟩ := ints_own2 HI.out.2.1 HI.out.1 (by simpa using hown1); have HI1 := Lib.hid hI1; clear hg1 hown1 hI1)
    | (go_at_call 6; (with_reducible refine (split_bad a A1 n c1 zs _ HI1.out (by omega) E HE.out h0).mono ?_); rintro e w2 ⟨rfl, rfl⟩; have HP1 := Lib.hid (HP.out.below hz hb1); have hz1' := Nat.lt_of_lt_of_le hz hb1.size)
    | (go_at_call 5; (with_reducible refine (awake_any _ HP1.out hz1').mono ?_); rintro e w4 ⟨rfl, hb4⟩))
  go_ret
  exact ⟨rfl, hb1.trans (hb4.mono hb1.size)⟩
set_option maxRecDepth 100000 in
set_option maxHeartbeats 8000000 in
theorem walkSplitPos (m W : Nat) (A : Option Addr) (n c : Nat) (zs : List Int) (w : World)  (hH : Has w A n c (zs.map (Value.int .i64))) (hI : Ints w A n zs) (hn : n ≤ 64) (hP : Pows w) (hz : 0 < w.heap.size) (hm2 : m ≤ 1125899906842624) (hok : zs.all okU = true) (hs : zs.sum = (W : Int)) (hW : 0 < W) :
    Calls Tryd.prog 4 #[.int .i64 (m : Int), .slice A n c] w fun e w' => e = .returned (.bool true) ∧ Below w.heap.size w w' := by
  obtain ⟨i0, hi0, hz0, hz1, hz2⟩ := info_parts intInfo
  have hb0 : Below w.heap.size w (w.alloc (.cells #[] 3)) := (Below.refl _ _).alloc (Nat.le_refl _) _
  have hzl : zs.length = n := hI.1
  have hub := usum_bound hok
  have hW2 : W ≤ 70368744177664 := by omega
  have hnn : ∀ x ∈ zs, 0 ≤ x := fun x hx => (okU_iff.1 (List.all_eq_true.1 hok x hx)).1
  have HUW : Hid (∀ z ∈ zs, 0 ≤ z ∧ z ≤ (W : Int)) := Lib.hid (by
    intro z hz1
    refine ⟨hnn z hz1, ?_⟩
    rw [← hs]
    obtain ⟨i, hi, rfl⟩ := List.getElem_of_mem hz1
    have h1 := take_sum_le hnn (i + 1)
    have h2 := sum_ge_of (l := zs.take i) (fun x hx => hnn x (List.mem_of_mem_take hx))
    rw [take_step zs i hi, List.sum_append, List.getElem?_eq_getElem hi] at h1
    simp at h1
    omega)
  have HH := Lib.hid (hH.below hb0); clear hH
  have HI := Lib.hid hI; clear hI
  have HP := Lib.hid hP; clear hP
  have HOK := Lib.hid hok; have HS := Lib.hid hs; have HZL := Lib.hid hzl; have HNN := Lib.hid hnn
  have hs1 : ¬ (200 : Int) < n := by omega
  have hoa : okA (m : Int) = true := okA_iff.2 (by omega)
  have HOA := Lib.hid hoa
  clear hok hs hub hnn hzl hoa
  go_enter Tryd.func4, Tryd.ntmps4
  go_wp2_with (first
    | (at_builtin; refine wpList_append_has rfl (.tmp 21) (.tmp 22) 22 rfl w.heap.size 3 i0 (.int .i64 0) 8 Tryd.underlying22 hi0 hz0 hz1 hz2 rfl _ 0 [] rfl (own_lit _ _) A n c _ rfl HH.out (by unfold maxLen; omega) (by omega) (by simp) ?_; intro v1 w1 hown1 hg1; have hb1 : Below w.heap.size w w1 := (hb0.grown hg1 (by simp) (fun g hg' => by cases hg'; exact Nat.le_refl _)); obtain ⟨A1, c1, rfl, hI1⟩ := ints_own2 HI.out.2.1 HI.out.1 (by simpa using hown1); have HI1 := Lib.hid hI1; clear hg1 hown1 hI1)
    | (go_at_call 6; (with_reducible refine (split_any _ A1 n c1 m W zs _ HI1.out hn HOA.out (by unfold mag; rw [if_neg (by omega)]) HOK.out HS.out hW).mono ?_); rintro e w2 ⟨C, l, rfl, h1, hln, hl, h4, h5⟩; have H1 := Lib.hid h1; have HL := Lib.hid hl; have H4 := Lib.hid h4; have HB := Lib.hid (hb1.trans (h5.mono hb1.size)); clear h1 hl h4 h5))
  go_loopw [7, 9] (fun sv i wr => ∃ k : Nat, k ≤ n ∧ i = .int .i64 k ∧ sv = .int .i64 (zs.take k).sum ∧ wr = w2) (fun _ i _ => n - (intOf i).toNat)
  case atStart => exact ⟨0, by omega, rfl, rfl, rfl⟩
  case round =>
    obtain ⟨k, hk, rfl, rfl, hww⟩ := hrel
    have hww2 := hww.symm
    subst hww2
    clear hww
    have ht0 := sum_ge_of (l := zs.take k) (fun x hx => HNN.out x (List.mem_of_mem_take hx))
    have ht1 := take_sum_le HNN.out k
    rw [HS.out] at ht1
    by_cases hlt : k < n
    · obtain ⟨b, off, rfl, hbl, hc0⟩ := HI.out.2.2 k hlt
      have hc := (HB.out.cell (p := ⟨b, off + k, none⟩) hbl).trans hc0
      have hts := take_step zs k (by rw [HZL.out]; omega)
      have hub := HUW.out (zs[k]?.getD 0) (by rw [List.getElem?_eq_getElem (by rw [HZL.out]; exact hlt)]; exact List.getElem_mem _)
      have hlt' : (k : Int) < (n : Int) := by omega
      generalize zs[k]?.getD 0 = z at *
      obtain ⟨t, ht⟩ : ∃ t, (zs.take k).sum = t := ⟨_, rfl⟩
      have HT : Hid ((zs.take (k + 1)).sum = t + z) := Lib.hid (by rw [hts, List.sum_append, ht]; simp)
      rw [ht] at ht0 ht1 ⊢
      clear hts ht hc0
      go_wp2_with fail
      go_roundw
      case rel => exact ⟨k + 1, by omega, by go_num, by rw [HT.out], by simp⟩
      case measure => simp [intOf]; omega
    · obtain rfl : k = n := by omega
      have htk : zs.take k = zs := List.take_of_length_le (by rw [HZL.out]; omega)
      rw [htk, HS.out]
      have hwb : ((W : Int) == 0) = false := by simp; omega
      have hw0 : ¬ (W : Int) = 0 := by omega
      have HV := Lib.hid (fun W' => refValid_any (m : Int) W')
      rw [HOA.out] at HV
      clear ht0 ht1 htk
      have hpp := parts_ok2 (M := m) (W := W) (by omega) HZL.out (by omega) HS.out HUW.out H1.out hln HL.out
      have hPL : (addL (qL m W zs) ((nats C).take l)).length = k := by rw [addL_length]; unfold qL; rw [List.length_map, HZL.out]
      have h4 := H4.out
      generalize addL (qL m W zs) ((nats C).take l) = P at *
      rw [show sgnL (m : Int) P = P from if_neg (by omega)] at h4
      have HC := Lib.hid (hi_of_own h4 (by exact hPL))
      have HPL := Lib.hid hPL
      have HSUM : Hid ((P).sum = (m : Int)) := Lib.hid (by exact hpp.1)
      have HPP := Lib.hid hpp.2
      have HSL : Hid ((P).length = k) := Lib.hid (by exact HPL.out)
      obtain ⟨G, hG⟩ : ∃ G, w1.heap.size = G := ⟨_, rfl⟩
      rw [hG] at HC ⊢
      clear hpp hPL h4 H4 H1 HL HI1 HH hG
      go_wp2_with (go_at_call 9; refine (HV.out _).mono ?_; rintro e w3 ⟨rfl, rfl⟩)
      clear hwb hw0
      go_loopw [8, 10] (fun sv i wx => ∃ j q : Nat, j ≤ k ∧ i = .int .i64 j ∧ sv = .int .i64 ((P).take j).sum ∧ wx = w2.drewN q) (fun _ i _ => k - (intOf i).toNat)
      case atStart => exact ⟨0, 0, by omega, rfl, by simp, rfl⟩
      case round =>
        obtain ⟨j, q, hj, rfl, rfl, rfl⟩ := hrel
        have HBQ := Lib.hid (below_drewN HB.out q)
        have hsb := abs_sum (l := (P).take j) (B := 1125899906842624) (by
          intro x hx
          obtain ⟨i, hi, rfl⟩ := List.getElem_of_mem (List.mem_of_mem_take hx)
          obtain ⟨y, hy, y0, y1, _⟩ := HPP.out i (by rw [← HSL.out]; exact hi)
          simp only [List.getElem?_eq_getElem hi, Option.getD_some] at hy; omega)
        rw [show ((P).take j).length = j by rw [List.length_take, HSL.out]; omega] at hsb
        by_cases hlj : j < k
        · obtain ⟨b, off, rfl, hbl, hc0⟩ := HI.out.2.2 j hlj
          have hub := HUW.out (zs[j]?.getD 0) (by rw [List.getElem?_eq_getElem (by rw [HZL.out]; exact hlj)]; exact List.getElem_mem _)
          have hu40 := okU_iff.1 (show okU (zs[j]?.getD 0) = true by rw [List.getElem?_eq_getElem (by rw [HZL.out]; exact hlj)]; exact List.all_eq_true.1 HOK.out _ (List.getElem_mem _))
          obtain ⟨y, hy, y0, y1, hyq⟩ := HPP.out j hlj
          have hc3 : (w2.drewN q).cell? ⟨G, j, none⟩ = some (.int .i64 (y)) := by
            have := (HC.out j (by rw [HSL.out]; exact hlj)).1
            rw [show (P).getD j 0 = y by rw [← hy]; try simp [List.getD]] at this
            exact this
          have hts := take_step (P) j (by rw [HSL.out]; exact hlj)
          rw [show (P)[j]?.getD 0 = y by rw [← hy]; try simp [List.getD]] at hts
          obtain ⟨T, hT⟩ : ∃ T, ((P).take j).sum = T := ⟨_, rfl⟩
          have HTS : Hid (((P).take (j + 1)).sum = T + (y)) := Lib.hid (by rw [hts, List.sum_append, hT]; simp)
          rw [hT] at hsb ⊢
          have hc : (w2.drewN q).cell? ⟨b, off + j, none⟩ = some (.int .i64 (zs[j]?.getD 0)) := (HB.out.cell (p := ⟨b, off + j, none⟩) hbl).trans hc0
          obtain ⟨z, hz'⟩ : ∃ z : Nat, zs[j]?.getD 0 = (z : Int) := ⟨(zs[j]?.getD 0).toNat, by omega⟩
          rw [hz'] at hub hu40 hyq hc
          obtain ⟨s1, s2, s3⟩ := share_nat hm2 (show z ≤ W by omega) hW hW2
          have HD0 := Lib.hid (fun wx => refDivide m z W (by omega) (by omega) hW hW2 wx)
          rw [show capped (m * z / W) = m * z / W from by unfold capped; omega] at HD0
          rw [show (m : Int) * (z : Int) / (W : Int) = ((m * z / W : Nat) : Int) by simp, show (m : Int) * (z : Int) % (W : Int) = ((m * z % W : Nat) : Int) by simp] at hyq
          obtain ⟨Q, hQ⟩ : ∃ Q, m * z / W = Q := ⟨_, rfl⟩
          obtain ⟨R, hR⟩ : ∃ R, m * z % W = R := ⟨_, rfl⟩
          rw [hQ, hR] at HD0 hyq
          have hok2 : okA (y) = true := okA_iff.2 (by omega)
          have HV2 := Lib.hid (fun W' => refValid_any (y) W')
          rw [hok2] at HV2
          have hlj' : (j : Int) < (k : Int) := by omega
          clear hQ hR hz' hT hts hc0 hy hub s1 s2 s3 hok2
          obtain ⟨wq, hwq⟩ : ∃ wq, w2.drewN q = wq := ⟨_, rfl⟩
          rw [hwq] at hc3 hc ⊢
          have HWQ := Lib.hid hwq
          clear hwq
          have hq1 : decide ((Q : Int) + 1 = (Q : Int)) = false := decide_eq_false (by omega)
          have hq2 : decide (-((Q : Int) + 1) = -(Q : Int)) = false := decide_eq_false (by omega)
          rcases hyq with rfl | ⟨rfl, hR0⟩
          · clear y0
            go_wp2_with (first
              | (go_at_call 9; refine (HV2.out _).mono ?_; rintro e w3 ⟨rfl, rfl⟩)
              | (go_at_call 10; refine (HD0.out _).mono ?_; rintro e w3 ⟨rfl, q2, rfl⟩))
            go_quiet (fail)
            go_wp2_with (first
              | (go_at_call 9; refine (HV2.out _).mono ?_; rintro e w3 ⟨rfl, rfl⟩)
              | (go_at_call 10; refine (HD0.out _).mono ?_; rintro e w3 ⟨rfl, q2, rfl⟩))
            go_roundw
            case rel => exact ⟨j + 1, _, by omega, by go_num, by rw [HTS.out], by rw [← HWQ.out]; simp only [World.drewN_drewN]; rfl⟩
            case measure => simp [intOf]; omega
          · clear y0
            have hR1 : decide ((R : Int) = 0) = false := decide_eq_false (by omega)
            have hR2 : ¬ R = 0 := by omega
            have hR3 : ((R : Int) == 0) = false := by simp; omega
            have hR4 : decide (R = 0) = false := decide_eq_false hR2
            go_wp2_with (first
              | (go_at_call 9; refine (HV2.out _).mono ?_; rintro e w3 ⟨rfl, rfl⟩)
              | (go_at_call 10; refine (HD0.out _).mono ?_; rintro e w3 ⟨rfl, q2, rfl⟩))
            go_quiet (fail)
            go_wp2_with (first
              | (go_at_call 9; refine (HV2.out _).mono ?_; rintro e w3 ⟨rfl, rfl⟩)
              | (go_at_call 10; refine (HD0.out _).mono ?_; rintro e w3 ⟨rfl, q2, rfl⟩))
            go_roundw
            case rel => exact ⟨j + 1, _, by omega, by go_num, by rw [HTS.out], by rw [← HWQ.out]; simp only [World.drewN_drewN]; rfl⟩
            case measure => simp [intOf]; omega
        · obtain rfl : j = k := by omega
          have htk : (P).take j = P := List.take_of_length_le (by rw [HSL.out]; omega)
          rw [htk, HSUM.out]
          have HP1 := Lib.hid (HP.out.below hz HBQ.out)
          have hz1' : 0 < (w2.drewN q).heap.size := Nat.lt_of_lt_of_le hz HBQ.out.size
          clear htk hsb
          go_wp2_with (go_at_call 5; refine (awake_any _ HP1.out hz1').mono ?_; rintro e w4 ⟨rfl, hb4⟩)
          go_ret
          exact ⟨rfl, HBQ.out.trans (hb4.mono HBQ.out.size)⟩
set_option maxRecDepth 100000 in
set_option maxHeartbeats 8000000 in
theorem walkSplitNeg (m W : Nat) (A : Option Addr) (n c : Nat) (zs : List Int) (w : World)  (hH : Has w A n c (zs.map (Value.int .i64))) (hI : Ints w A n zs) (hn : n ≤ 64) (hP : Pows w) (hz : 0 < w.heap.size) (hm1 : 1 ≤ m) (hm2 : m ≤ 1125899906842624) (hok : zs.all okU = true) (hs : zs.sum = (W : Int)) (hW : 0 < W) :
    Calls Tryd.prog 4 #[.int .i64 (-(m : Int)), .slice A n c] w fun e w' => e = .returned (.bool true) ∧ Below w.heap.size w w' := by
  obtain ⟨i0, hi0, hz0, hz1, hz2⟩ := info_parts intInfo
  have hb0 : Below w.heap.size w (w.alloc (.cells #[] 3)) := (Below.refl _ _).alloc (Nat.le_refl _) _
  have hzl : zs.length = n := hI.1
  have hub := usum_bound hok
  have hW2 : W ≤ 70368744177664 := by omega
  have hnn : ∀ x ∈ zs, 0 ≤ x := fun x hx => (okU_iff.1 (List.all_eq_true.1 hok x hx)).1
  have HUW : Hid (∀ z ∈ zs, 0 ≤ z ∧ z ≤ (W : Int)) := Lib.hid (by
    intro z hz1
    refine ⟨hnn z hz1, ?_⟩
    rw [← hs]
    obtain ⟨i, hi, rfl⟩ := List.getElem_of_mem hz1
    have h1 := take_sum_le hnn (i + 1)
    have h2 := sum_ge_of (l := zs.take i) (fun x hx => hnn x (List.mem_of_mem_take hx))
    rw [take_step zs i hi, List.sum_append, List.getElem?_eq_getElem hi] at h1
    simp at h1
    omega)
  have HH := Lib.hid (hH.below hb0); clear hH
  have HI := Lib.hid hI; clear hI
  have HP := Lib.hid hP; clear hP
  have HOK := Lib.hid hok; have HS := Lib.hid hs; have HZL := Lib.hid hzl; have HNN := Lib.hid hnn
  have hs1 : ¬ (200 : Int) < n := by omega
  have hoa : okA (-(m : Int)) = true := okA_iff.2 (by omega)
  have HOA := Lib.hid hoa
  clear hok hs hub hnn hzl hoa
  go_enter Tryd.func4, Tryd.ntmps4
  go_wp2_with (first
    | (at_builtin; refine wpList_append_has rfl (.tmp 21) (.tmp 22) 22 rfl w.heap.size 3 i0 (.int .i64 0) 8 Tryd.underlying22 hi0 hz0 hz1 hz2 rfl _ 0 [] rfl (own_lit _ _) A n c _ rfl HH.out (by unfold maxLen; omega) (by omega) (by simp) ?_; intro v1 w1 hown1 hg1; have hb1 : Below w.heap.size w w1 := (hb0.grown hg1 (by simp) (fun g hg' => by cases hg'; exact Nat.le_refl _)); obtain ⟨A1, c1, rfl, hI1⟩ := ints_own2 HI.out.2.1 HI.out.1 (by simpa using hown1); have HI1 := Lib.hid hI1; clear hg1 hown1 hI1)
    | (go_at_call 6; (with_reducible refine (split_any _ A1 n c1 m W zs _ HI1.out hn HOA.out (by unfold mag; rw [if_pos (by omega)]; omega) HOK.out HS.out hW).mono ?_); rintro e w2 ⟨C, l, rfl, h1, hln, hl, h4, h5⟩; have H1 := Lib.hid h1; have HL := Lib.hid hl; have H4 := Lib.hid h4; have HB := Lib.hid (hb1.trans (h5.mono hb1.size)); clear h1 hl h4 h5))
  go_loopw [7, 9] (fun sv i wr => ∃ k : Nat, k ≤ n ∧ i = .int .i64 k ∧ sv = .int .i64 (zs.take k).sum ∧ wr = w2) (fun _ i _ => n - (intOf i).toNat)
  case atStart => exact ⟨0, by omega, rfl, rfl, rfl⟩
  case round =>
    obtain ⟨k, hk, rfl, rfl, hww⟩ := hrel
    have hww2 := hww.symm
    subst hww2
    clear hww
    have ht0 := sum_ge_of (l := zs.take k) (fun x hx => HNN.out x (List.mem_of_mem_take hx))
    have ht1 := take_sum_le HNN.out k
    rw [HS.out] at ht1
    by_cases hlt : k < n
    · obtain ⟨b, off, rfl, hbl, hc0⟩ := HI.out.2.2 k hlt
      have hc := (HB.out.cell (p := ⟨b, off + k, none⟩) hbl).trans hc0
      have hts := take_step zs k (by rw [HZL.out]; omega)
      have hub := HUW.out (zs[k]?.getD 0) (by rw [List.getElem?_eq_getElem (by rw [HZL.out]; exact hlt)]; exact List.getElem_mem _)
      have hlt' : (k : Int) < (n : Int) := by omega
      generalize zs[k]?.getD 0 = z at *
      obtain ⟨t, ht⟩ : ∃ t, (zs.take k).sum = t := ⟨_, rfl⟩
      have HT : Hid ((zs.take (k + 1)).sum = t + z) := Lib.hid (by rw [hts, List.sum_append, ht]; simp)
      rw [ht] at ht0 ht1 ⊢
      clear hts ht hc0
      go_wp2_with fail
      go_roundw
      case rel => exact ⟨k + 1, by omega, by go_num, by rw [HT.out], by simp⟩
      case measure => simp [intOf]; omega
    · obtain rfl : k = n := by omega
      have htk : zs.take k = zs := List.take_of_length_le (by rw [HZL.out]; omega)
      rw [htk, HS.out]
      have hwb : ((W : Int) == 0) = false := by simp; omega
      have hw0 : ¬ (W : Int) = 0 := by omega
      have HV := Lib.hid (fun W' => refValid_any (-(m : Int)) W')
      rw [HOA.out] at HV
      clear ht0 ht1 htk
      have hpp := parts_ok2 (M := m) (W := W) (by omega) HZL.out (by omega) HS.out HUW.out H1.out hln HL.out
      have hPL : (addL (qL m W zs) ((nats C).take l)).length = k := by rw [addL_length]; unfold qL; rw [List.length_map, HZL.out]
      have h4 := H4.out
      generalize addL (qL m W zs) ((nats C).take l) = P at *
      rw [show sgnL (-(m : Int)) P = P.map (fun x => -x) from if_pos (by omega)] at h4
      have HC := Lib.hid (hi_of_own h4 (by rw [List.length_map]; exact hPL))
      have HPL := Lib.hid hPL
      have HSUM : Hid ((P.map (fun x => -x)).sum = -(m : Int)) := Lib.hid (by rw [neg_sum, hpp.1])
      have HML : Hid ((P.map (fun x => -x)).length = k) := Lib.hid (by rw [List.length_map]; exact hPL)
      have HMM : Hid (∀ i, i < k → (P.map (fun x => -x))[i]? = some (-(P[i]?.getD 0))) := Lib.hid (fun i hi => by rw [List.getElem?_map, List.getElem?_eq_getElem (by omega)]; rfl)
      have HPP := Lib.hid hpp.2
      have HSL : Hid ((P).length = k) := Lib.hid (by exact HPL.out)
      obtain ⟨M, hM⟩ : ∃ M, P.map (fun x => -x) = M := ⟨_, rfl⟩
      rw [hM] at HC HSUM HML HMM
      obtain ⟨G, hG⟩ : ∃ G, w1.heap.size = G := ⟨_, rfl⟩
      rw [hG] at HC ⊢
      clear hM hpp hPL h4 H4 H1 HL HI1 HH hG
      go_wp2_with (go_at_call 9; refine (HV.out _).mono ?_; rintro e w3 ⟨rfl, rfl⟩)
      clear hwb hw0
      go_loopw [8, 10] (fun sv i wx => ∃ j q : Nat, j ≤ k ∧ i = .int .i64 j ∧ sv = .int .i64 (M.take j).sum ∧ wx = w2.drewN q) (fun _ i _ => k - (intOf i).toNat)
      case atStart => exact ⟨0, 0, by omega, rfl, by simp, rfl⟩
      case round =>
        obtain ⟨j, q, hj, rfl, rfl, rfl⟩ := hrel
        have HBQ := Lib.hid (below_drewN HB.out q)
        have hsb := abs_sum (l := M.take j) (B := 1125899906842624) (by
          intro x hx
          obtain ⟨i, hi, rfl⟩ := List.getElem_of_mem (List.mem_of_mem_take hx)
          have hik : i < k := by rw [← HML.out]; exact hi
          obtain ⟨y, hy, y0, y1, _⟩ := HPP.out i hik
          have hmi := HMM.out i hik
          rw [List.getElem?_eq_getElem hi] at hmi
          have hmi := Option.some.inj hmi
          rw [hmi, hy]; omega)
        rw [show (M.take j).length = j by rw [List.length_take, HML.out]; omega] at hsb
        by_cases hlj : j < k
        · obtain ⟨b, off, rfl, hbl, hc0⟩ := HI.out.2.2 j hlj
          have hub := HUW.out (zs[j]?.getD 0) (by rw [List.getElem?_eq_getElem (by rw [HZL.out]; exact hlj)]; exact List.getElem_mem _)
          have hu40 := okU_iff.1 (show okU (zs[j]?.getD 0) = true by rw [List.getElem?_eq_getElem (by rw [HZL.out]; exact hlj)]; exact List.all_eq_true.1 HOK.out _ (List.getElem_mem _))
          obtain ⟨y, hy, y0, y1, hyq⟩ := HPP.out j hlj
          have hMj : M[j]? = some (-y) := by rw [HMM.out j hlj, hy]
          have hc3 : (w2.drewN q).cell? ⟨G, j, none⟩ = some (.int .i64 (-y)) := by
            have := (HC.out j (by rw [HML.out]; exact hlj)).1
            rw [show M.getD j 0 = -y by simp [List.getD, hMj]] at this
            exact this
          have hts := take_step M j (by rw [HML.out]; exact hlj)
          rw [show M[j]?.getD 0 = -y by rw [hMj]; rfl] at hts
          obtain ⟨T, hT⟩ : ∃ T, (M.take j).sum = T := ⟨_, rfl⟩
          have HTS : Hid ((M.take (j + 1)).sum = T + -y) := Lib.hid (by rw [hts, List.sum_append, hT]; simp)
          rw [hT] at hsb ⊢
          have hc : (w2.drewN q).cell? ⟨b, off + j, none⟩ = some (.int .i64 (zs[j]?.getD 0)) := (HB.out.cell (p := ⟨b, off + j, none⟩) hbl).trans hc0
          obtain ⟨z, hz'⟩ : ∃ z : Nat, zs[j]?.getD 0 = (z : Int) := ⟨(zs[j]?.getD 0).toNat, by omega⟩
          rw [hz'] at hub hu40 hyq hc
          obtain ⟨s1, s2, s3⟩ := share_nat hm2 (show z ≤ W by omega) hW hW2
          have HD0 := Lib.hid (fun wx => refDivide m z W (by omega) (by omega) hW hW2 wx)
          rw [show capped (m * z / W) = m * z / W from by unfold capped; omega] at HD0
          rw [show (m : Int) * (z : Int) / (W : Int) = ((m * z / W : Nat) : Int) by simp, show (m : Int) * (z : Int) % (W : Int) = ((m * z % W : Nat) : Int) by simp] at hyq
          obtain ⟨Q, hQ⟩ : ∃ Q, m * z / W = Q := ⟨_, rfl⟩
          obtain ⟨R, hR⟩ : ∃ R, m * z % W = R := ⟨_, rfl⟩
          rw [hQ, hR] at HD0 hyq
          have hok2 : okA (-y) = true := okA_iff.2 (by omega)
          have HV2 := Lib.hid (fun W' => refValid_any (-y) W')
          rw [hok2] at HV2
          have hlj' : (j : Int) < (k : Int) := by omega
          clear hQ hR hz' hT hts hc0 hy hub s1 s2 s3 hok2 hMj
          obtain ⟨wq, hwq⟩ : ∃ wq, w2.drewN q = wq := ⟨_, rfl⟩
          rw [hwq] at hc3 hc ⊢
          have HWQ := Lib.hid hwq
          clear hwq
          have hq1 : decide ((Q : Int) + 1 = (Q : Int)) = false := decide_eq_false (by omega)
          have hq2 : decide (-((Q : Int) + 1) = -(Q : Int)) = false := decide_eq_false (by omega)
          rcases hyq with rfl | ⟨rfl, hR0⟩
          · clear y0
            go_wp2_with (first
              | (go_at_call 9; refine (HV2.out _).mono ?_; rintro e w3 ⟨rfl, rfl⟩)
              | (go_at_call 10; refine (HD0.out _).mono ?_; rintro e w3 ⟨rfl, q2, rfl⟩))
            go_quiet (fail)
            go_wp2_with fail
            go_quiet (fail)
            go_wp2_with (first
              | (go_at_call 9; refine (HV2.out _).mono ?_; rintro e w3 ⟨rfl, rfl⟩)
              | (go_at_call 10; refine (HD0.out _).mono ?_; rintro e w3 ⟨rfl, q2, rfl⟩))
            go_roundw
            case rel => exact ⟨j + 1, _, by omega, by go_num, by rw [HTS.out], by rw [← HWQ.out]; simp only [World.drewN_drewN]; rfl⟩
            case measure => simp [intOf]; omega
          · clear y0
            have hR1 : decide ((R : Int) = 0) = false := decide_eq_false (by omega)
            have hR2 : ¬ R = 0 := by omega
            have hR3 : ((R : Int) == 0) = false := by simp; omega
            have hR4 : decide (R = 0) = false := decide_eq_false hR2
            go_wp2_with (first
              | (go_at_call 9; refine (HV2.out _).mono ?_; rintro e w3 ⟨rfl, rfl⟩)
              | (go_at_call 10; refine (HD0.out _).mono ?_; rintro e w3 ⟨rfl, q2, rfl⟩))
            go_quiet (fail)
            go_wp2_with fail
            go_quiet (fail)
            go_wp2_with (first
              | (go_at_call 9; refine (HV2.out _).mono ?_; rintro e w3 ⟨rfl, rfl⟩)
              | (go_at_call 10; refine (HD0.out _).mono ?_; rintro e w3 ⟨rfl, q2, rfl⟩))
            go_roundw
            case rel => exact ⟨j + 1, _, by omega, by go_num, by rw [HTS.out], by rw [← HWQ.out]; simp only [World.drewN_drewN]; rfl⟩
            case measure => simp [intOf]; omega
        · obtain rfl : j = k := by omega
          have htk : M.take j = M := List.take_of_length_le (by rw [HML.out]; omega)
          rw [htk, HSUM.out]
          have HP1 := Lib.hid (HP.out.below hz HBQ.out)
          have hz1' : 0 < (w2.drewN q).heap.size := Nat.lt_of_lt_of_le hz HBQ.out.size
          clear htk hsb
          go_wp2_with (go_at_call 5; refine (awake_any _ HP1.out hz1').mono ?_; rintro e w4 ⟨rfl, hb4⟩)
          go_ret
          exact ⟨rfl, HBQ.out.trans (hb4.mono HBQ.out.size)⟩
set_option maxHeartbeats 1000000 in
theorem walkAmountSplit (a : Int) (A : Option Addr) (n c : Nat) (zs : List Int) (w : World) (wa : (Lit.int .i64 a).wf = true) (hr : IsRow .i64 w A n c zs) (_hn : n * 8 ≤ 140737488351232) (hP : Pows w) (hz : 0 < w.heap.size) :
    Calls Tryd.prog 4 #[.int .i64 a, .slice A n c] w fun e w' => e = .returned (.bool true) ∧ Below w.heap.size w w' := by
  by_cases h : n ≤ 200
  · by_cases h0 : twE a (zs.take n) = 0
    · obtain ⟨h1, h2, h3, h4⟩ := tw_zero h0
      have hI := ints_row2 hr
      have hzl : (zs.take n).length = n := hI.1
      have hnn : ∀ x ∈ zs.take n, 0 ≤ x := fun x hx => (okU_iff.1 (List.all_eq_true.1 h3 x hx)).1
      have hs0 := sum_ge_of hnn
      obtain ⟨W, hW⟩ : ∃ W : Nat, (zs.take n).sum = (W : Int) := ⟨(zs.take n).sum.toNat, by omega⟩
      have hab := okA_iff.1 h2
      by_cases hneg : a < 0
      · obtain ⟨m, rfl⟩ : ∃ m : Nat, a = -(m : Int) := ⟨(-a).toNat, by omega⟩
        exact walkSplitNeg m W A n c _ w (has_row hr) hI (by omega) hP hz (by omega) (by omega) h3 hW (by omega)
      · obtain ⟨m, rfl⟩ : ∃ m : Nat, a = (m : Int) := ⟨a.toNat, by omega⟩
        exact walkSplitPos m W A n c _ w (has_row hr) hI (by omega) hP hz (by omega) h3 hW (by omega)
    · exact walkSplitBad a A n c _ w (has_row hr) (ints_row2 hr) h hP hz _ rfl h0
  · have hs1 : (200 : Int) < n := by omega
    clear hr h
    go_enter Tryd.func4, Tryd.ntmps4
    go_wp2_with (go_at_call 5; refine (awake_any _ hP hz).mono ?_; rintro e w4 ⟨rfl, hb4⟩)
    go_ret
    exact ⟨rfl, hb4⟩
end Go.Proofs.YtopngdjhnljmfaaDoor
