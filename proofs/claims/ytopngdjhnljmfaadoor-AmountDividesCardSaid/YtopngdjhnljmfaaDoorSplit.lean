/- Walk: an amount is divided: the whole shares, then ones to the greatest rests. -/
import Derived.Test.YtopngdjhnljmfaaDoorSplV
import Derived.Test.YtopngdjhnljmfaaDoorRound
import Derived.Test.YtopngdjhnljmfaaDoorDiv
namespace Go.Proofs.YtopngdjhnljmfaaDoor
open Go.RowKit St

theorem rkAt_of (M W : Int) (zs : List Int) (i : Nat) (hi : i < zs.length) : (zs.map fun z => M * z % W).getD i 0 = rkAt M W zs (i : Int) := by
  unfold rkAt
  rw [show ((i : Int)).toNat = i by omega]
  simp [List.getD, List.getElem?_eq_getElem hi]
/-- The parts, with the amount's sign. -/
def sgnL (a : Int) (P : List Int) : List Int := if a < 0 then P.map (fun x => -x) else P
/-- The first k turned. -/
def negL (P : List Int) (k : Nat) : List Int := (P.take k).map (fun x => -x) ++ P.drop k
theorem negL_zero (P : List Int) : negL P 0 = P := by simp [negL]
theorem negL_all {P : List Int} {n : Nat} (h : P.length = n) : negL P n = P.map (fun x => -x) := by
  unfold negL
  rw [List.take_of_length_le (by omega), List.drop_of_length_le (by omega), List.append_nil]
theorem negL_length (P : List Int) (k : Nat) : (negL P k).length = P.length := by
  unfold negL; rw [List.length_append, List.length_map, ← List.length_append, List.take_append_drop]
theorem negL_at {P : List Int} {k : Nat} (hk : k < P.length) : (negL P k).getD k 0 = P[k]?.getD 0 := by
  unfold negL
  simp only [List.getD]
  rw [List.getElem?_append_right (by simp; omega), List.length_map, List.length_take, show min k P.length = k by omega, Nat.sub_self, List.getElem?_drop, Nat.add_zero]
theorem negL_set {P : List Int} {k : Nat} (hk : k < P.length) : (negL P k).set k (-(P[k]?.getD 0)) = negL P (k + 1) := by
  unfold negL
  have e : ((P.take k).map (fun x => -x)).length = k := by simp; omega
  rw [List.set_append_right _ _ (by omega), e, Nat.sub_self, List.drop_eq_getElem_cons hk, List.set_cons_zero, take_step P k hk, List.map_append, List.append_assoc]
  simp [List.getElem?_eq_getElem hk]
set_option maxRecDepth 100000 in
set_option maxHeartbeats 8000000 in
theorem split_any (a : Int) (A : Option Addr) (n c m W : Nat) (zs : List Int) (w : World) (hA : Ints w A n zs) (hn : n ≤ 64) (ha : okA a = true) (hm : mag a = (m : Int)) (hok : zs.all okU = true) (hs : zs.sum = (W : Int)) (hW : 0 < W) :
    Calls Tryd.prog 6 #[.int .i64 a, .slice A n c] w fun e w' => ∃ (C : List Int) (l : Nat), e = .returned (.tuple #[.slice (some ⟨w.heap.size, 0, none⟩) n n, .int .i64 0]) ∧ SP (rkAt m W zs) 0 n C ∧ l ≤ n ∧ (l : Int) = m - (qL m W zs).sum ∧
      w'.ownsRow w.heap.size 3 1 (.slice (some ⟨w.heap.size, 0, none⟩) n n) n ((sgnL a (addL (qL m W zs) ((nats C).take l))).map (Value.int .i64)) ∧ Below w.heap.size w w' := by
  obtain ⟨i0, hi0, hz0, hz1, hz2⟩ := info_parts intInfo
  have hzl : zs.length = n := hA.1
  have hab := okA_iff.1 ha
  have hm2 : m ≤ 1125899906842624 := by unfold mag at hm; split at hm <;> omega
  have hub := usum_bound hok
  have hW2 : W ≤ 70368744177664 := by omega
  have HTW0 := totalWeight_any a A n c zs w hA (by unfold maxLen; omega)
  have htw := tw_good (a := a) (by omega) ha hok (by omega)
  rw [htw.1, htw.2, hs] at HTW0
  have HTW := Lib.hid HTW0
  have HMG := Lib.hid (fun W' => magnitude_any a W' (by omega) (by omega))
  rw [hm] at HMG
  obtain ⟨l, hln, hl⟩ := missing2 (M := m) hzl (by omega) hs
  have HL := Lib.hid hl
  have HOK := Lib.hid hok
  have HZL := Lib.hid hzl
  have HS := Lib.hid hs
  have HA := Lib.hid hA
  have hnn : ∀ x ∈ zs, 0 ≤ x := fun x hx => (okU_iff.1 (List.all_eq_true.1 hok x hx)).1
  have HNN := Lib.hid hnn
  have HUB : Hid (∀ z ∈ zs, z ≤ (W : Int)) := Lib.hid (by
    intro z hz1
    rw [← hs]
    obtain ⟨i, hi, rfl⟩ := List.getElem_of_mem hz1
    have h1 := take_sum_le hnn (i + 1)
    have h2 := sum_ge_of (l := zs.take i) (fun x hx => hnn x (List.mem_of_mem_take hx))
    rw [take_step zs i hi, List.sum_append, List.getElem?_eq_getElem hi] at h1
    simp at h1
    omega)
  clear HTW0 htw hA hm hok hs hub hl hzl hnn ha
  go_enter Tryd.func6, Tryd.ntmps6
  go_upto_region 6 with (first
    | (go_at_call 15; refine HTW.out.mono ?_; rintro e w1 ⟨rfl, rfl⟩)
    | (go_at_call 16; refine (HMG.out _).mono ?_; rintro e w1 ⟨rfl, rfl⟩)
    | (at_make; refine wpList_make_full _ rfl _ _ 22 rfl w.heap.size 3 i0 (.int .i64 0) 1 Tryd.underlying22 hi0 hz0 hz1 _ _ _ _ n rfl rfl (by omega) (by omega) (by rw [hz2]; omega) (by unfold maxLen; omega) (by simp) ?_; intro w1 hownP hgP; rw [zeros_row] at hownP; have HOP := Lib.hid hownP; have HGP := Lib.hid hgP; clear hownP hgP))
  have hlt1 := (own_lt HOP.out).2
  go_wp2_with (at_make; refine wpList_make_full _ rfl _ _ 22 rfl w1.heap.size 3 i0 (.int .i64 0) 1 Tryd.underlying22 hi0 hz0 hz1 _ _ _ _ n rfl rfl (by omega) (by omega) (by rw [hz2]; omega) (by unfold maxLen; omega) (by simp) ?_; intro w2 hownR hgR; rw [zeros_row] at hownR; have HOR := Lib.hid hownR; have HGR := Lib.hid hgR; clear hownR hgR)
  have hlt2 := (own_lt HOR.out).2
  go_loopw [8, 37] (fun mv i wr => ∃ k : Nat, k ≤ n ∧ i = .int .i64 k ∧ mv = .int .u64 (m - (qL m W (zs.take k)).sum) ∧
      wr.ownsRow w.heap.size 3 1 (.slice (some ⟨w.heap.size, 0, none⟩) n n) n ((fillL (fun z => m * z / W) zs n k).map (Value.int .i64)) ∧ Hid (HI wr w1.heap.size (fillL (fun z => m * z % W) zs n k)) ∧ Below w.heap.size w wr ∧ w1.heap.size < wr.heap.size) (fun _ i _ => n - (intOf i).toNat)
  case atStart =>
    refine ⟨0, by omega, rfl, by simp [qL], ?_, Lib.hid ?_, ?_, hlt2⟩
    · rw [fillL_zero]; exact ownsRow_below HOP.out (below_none HGR.out)
    · rw [fillL_zero]; exact hi_of_own HOR.out (by simp)
    · exact (below_none HGP.out).trans ((below_none HGR.out).mono (by omega))
  case round =>
    clear HOP HOR HGP HGR HTW
    obtain ⟨k, hk, rfl, rfl, hown, HH, hb, hl2⟩ := hrel
    have hps := part_sum_le (M := m) (W := W) (ws := zs) (by omega) (by omega) HS.out HNN.out k
    by_cases hlt : k < n
    · obtain ⟨b, off, rfl, hbl, hc0⟩ := HA.out.2.2 k hlt
      have hc : wr.cell? ⟨b, off + k, none⟩ = some (.int .i64 (zs[k]?.getD 0)) := (hb.cell (p := ⟨b, off + k, none⟩) hbl).trans hc0
      have hts := take_step zs k (by rw [HZL.out]; omega)
      have hokz : okU (zs[k]?.getD 0) = true := by
        have hl : k < zs.length := by rw [HZL.out]; exact hlt
        rw [List.getElem?_eq_getElem hl]
        exact List.all_eq_true.1 HOK.out _ (List.getElem_mem hl)
      have hzb := okU_iff.1 hokz
      have hps1 := part_sum_le (M := m) (W := W) (ws := zs) (by omega) (by omega) HS.out HNN.out (k + 1)
      have hzW : zs[k]?.getD 0 ≤ (W : Int) := by
        have h1 := take_sum_le HNN.out (k + 1)
        have h2 := sum_ge_of (l := zs.take k) (fun x hx => HNN.out x (List.mem_of_mem_take hx))
        rw [hts, List.sum_append, HS.out] at h1
        simp at h1
        omega
      have f1 := fillL_set (fun z => (m : Int) * z / (W : Int)) HZL.out hlt
      have f2 := fillL_set (fun z => (m : Int) * z % (W : Int)) HZL.out hlt
      have hsum : (qL m W (zs.take (k + 1))).sum = (qL m W (zs.take k)).sum + (m : Int) * (zs[k]?.getD 0) / (W : Int) := by unfold qL; rw [hts]; simp
      obtain ⟨z, hz⟩ : ∃ z : Nat, zs[k]?.getD 0 = (z : Int) := ⟨(zs[k]?.getD 0).toNat, by omega⟩
      simp only [hz] at f1 f2 hsum hc hzb hzW
      have eq : (m : Int) * (z : Int) / (W : Int) = ((m * z / W : Nat) : Int) := by simp
      have er : (m : Int) * (z : Int) % (W : Int) = ((m * z % W : Nat) : Int) := by simp
      obtain ⟨s1, s2, s3⟩ := share_nat hm2 (show z ≤ W by omega) hW hW2
      simp only [eq] at f1 hsum
      simp only [er] at f2
      generalize (qL m W (zs.take k)).sum = T at *
      rw [hsum] at hps1
      have hM := fun wx => (Tryd.bits_Mul64 m z (by omega) (by omega) wx)
      have hp := Nat.div_add_mod' (m * z) 18446744073709551616
      have hlo : m * z % 18446744073709551616 < 18446744073709551616 := Nat.mod_lt _ (by decide)
      have HD := Lib.hid (fun wx => div64 (m * z / 18446744073709551616) (m * z % 18446744073709551616) W s1 hlo (by omega) wx)
      rw [hp] at HD
      have HM : Hid (∀ wx, Calls Tryd.prog 17 #[.int .u64 (m : Int), .int .u64 (z : Int)] wx fun e w' => e = .returned (.tuple #[.int .u64 ((m * z / 18446744073709551616 : Nat) : Int), .int .u64 ((m * z % 18446744073709551616 : Nat) : Int)]) ∧ wx = w') :=
        Lib.hid fun wx => (hM wx).mono fun e w' ⟨he, hw⟩ => ⟨he, hw.symm⟩
      clear hM hp
      obtain ⟨hi, hhi⟩ : ∃ hi, m * z / 18446744073709551616 = hi := ⟨_, rfl⟩
      obtain ⟨lo, hloe⟩ : ∃ lo, m * z % 18446744073709551616 = lo := ⟨_, rfl⟩
      obtain ⟨Q, hQ⟩ : ∃ Q, m * z / W = Q := ⟨_, rfl⟩
      obtain ⟨Z, hZ⟩ : ∃ Z, m * z % W = Z := ⟨_, rfl⟩
      rw [hhi, hloe] at HM HD
      rw [hQ, hZ] at HD
      simp only [hQ] at f1 hsum s2 hps1
      simp only [hZ] at f2 s3
      have HF1 := Lib.hid f1; have HF2 := Lib.hid f2; have HSUM := Lib.hid hsum; have HOWN := Lib.hid hown; have HB := Lib.hid hb
      have hlt' : (k : Int) < (n : Int) := by omega
      clear f1 f2 hsum hown hb hts hokz hz eq er hhi hloe hQ hZ s1 hlo hc0
      go_upto_region 12 with (first
        | (go_at_call 16; refine (HMG.out _).mono ?_; rintro e w1 ⟨rfl, rfl⟩)
        | (go_at_call 17; refine (HM.out _).mono ?_; rintro e w1 ⟨rfl, rfl⟩)
        | (go_at_call 18; refine (HD.out _).mono ?_; rintro e w1 ⟨rfl, q3, rfl⟩))
      obtain ⟨w3, hw3⟩ : ∃ w3, wr.drewN q3 = w3 := ⟨_, rfl⟩
      have hbr : Below wr.heap.size wr w3 := by rw [← hw3]; exact below_drewN (Below.refl _ _) q3
      have hs3 : w3.heap.size = wr.heap.size := by rw [← hw3]; rfl
      rw [hw3]
      have hown3 : w3.ownsRow w.heap.size 3 1 (.slice (some ⟨w.heap.size, 0, none⟩) n n) n ((fillL (fun z => (m : Int) * z / W) zs n k).map (Value.int .i64)) := ownsRow_below HOWN.out hbr
      have HH3 : HI w3 w1.heap.size (fillL (fun z => (m : Int) * z % W) zs n k) := by rw [← hw3]; exact HH.out
      have hb3 : Below w.heap.size w w3 := by rw [← hw3]; exact below_drewN HB.out q3
      have hfl1 := fillL_length (fun z => (m : Int) * z / W) HZL.out hk
      have hfl2 := fillL_length (fun z => (m : Int) * z % W) HZL.out hk
      obtain ⟨p1, p2⟩ := hi_of_own hown3 hfl1 k (by omega)
      have p3 := HH3 k (by omega)
      have RO : (w3.setCell ⟨w.heap.size, k, none⟩ (.int .i64 Q)).ownsRow w.heap.size 3 1 (.slice (some ⟨w.heap.size, 0, none⟩) n n) n ((fillL (fun z => (m : Int) * z / W) zs n (k + 1)).map (Value.int .i64)) := by
        have := (World.ownsRow.stored hown3 k (.int .i64 Q)).1
        rw [← HF1.out, List.map_set]
        exact this
      have RO2 := Lib.hid (ownsRow_setOther RO w1.heap.size k (by omega) (.int .i64 Z))
      have RH : HI ((w3.setCell ⟨w.heap.size, k, none⟩ (.int .i64 Q)).setCell ⟨w1.heap.size, k, none⟩ (.int .i64 Z)) w1.heap.size (fillL (fun z => (m : Int) * z % W) zs n (k + 1)) := by
        rw [← HF2.out]
        exact (hi_setOther HH3 (by omega) _).set_ k (by omega) Z
      have RH2 := Lib.hid RH
      have RB := Lib.hid ((hb3.setCell (p := ⟨w.heap.size, k, none⟩) (Nat.le_refl _) (.int .i64 Q)).setCell (p := ⟨w1.heap.size, k, none⟩) (Nat.le_of_lt hlt1) (.int .i64 Z))
      have c1 : ((w3.setCell ⟨w.heap.size, k, none⟩ (.int .i64 Q)).setCell ⟨w1.heap.size, k, none⟩ (.int .i64 Z)).cell? ⟨w.heap.size, k, none⟩ = some (.int .i64 Q) := by
        rw [World.cell?_setCell_other _ _ _ _ (by intro e'; simp only [Addr.mk.injEq] at e'; omega), World.cell?_setCell_same _ _ _ p1]
      have p4 : (w3.setCell ⟨w.heap.size, k, none⟩ (.int .i64 Q)).cell? ⟨w1.heap.size, k, none⟩ = some (.int .i64 ((fillL (fun z => (m : Int) * z % W) zs n k).getD k 0)) := (hi_setOther HH3 (by omega) _ k (by omega)).1
      have p31 := p3.1
      have p32 := p3.2
      clear p3 RO RH HH3 hown3 hb3 hfl1 hfl2 hbr hw3
      go_wp2_with fail
      go_roundw
      case rel => exact ⟨k + 1, by omega, by go_num, by rw [HSUM.out]; congr 1; omega, RO2.out, RH2, RB.out, by simpa [World.setCell, hs3] using hl2⟩
      case measure => simp [intOf]; omega
    · obtain rfl : k = n := by omega
      have htk : zs.take k = zs := List.take_of_length_le (by rw [HZL.out]; omega)
      rw [htk] at hps ⊢
      have hme : (m : Int) - (qL m W zs).sum = (l : Int) := HL.out.symm
      rw [hme]
      rw [fillL_all _ HZL.out] at hown
      have hz : ∀ i : Nat, i < k → wr.cell? ⟨w1.heap.size, 0 + i, none⟩ = some (.int .i64 (rkAt m W zs i)) := fun i hi => by
        have := HH.out
        rw [fillL_all _ HZL.out] at this
        rw [Nat.zero_add, (this i (by rw [List.length_map, HZL.out]; exact hi)).1, rkAt_of _ _ zs i (by rw [HZL.out]; exact hi)]
      have HUW : Hid (∀ x ∈ zs, 0 ≤ x ∧ x ≤ (W : Int)) := Lib.hid (fun x hx => ⟨HNN.out x hx, HUB.out x hx⟩)
      have hqb : ∀ x ∈ qL m W zs, -4611686018427387904 ≤ x ∧ x ≤ 4611686018427387904 := by
        intro x hx
        obtain ⟨z, hz1, rfl⟩ := List.mem_map.1 hx
        have h0 := HNN.out z hz1
        have h1 := HUB.out z hz1
        have h2 := Int.mul_le_mul_of_nonneg_left h1 (show (0 : Int) ≤ (m : Int) by omega)
        have h3 := Int.ediv_nonneg (Int.mul_nonneg (show (0 : Int) ≤ (m : Int) by omega) h0) (show (0 : Int) ≤ (W : Int) by omega)
        have h4 : (m : Int) * z / (W : Int) ≤ (m : Int) := Int.ediv_le_of_le_mul (by omega) h2
        omega
      have HAO := Lib.hid (addOnes_gen k l w.heap.size w.heap.size k w1.heap.size 0 k (rkAt m W zs) (qL m W zs) wr (by omega) hln (Nat.le_refl _) (by omega) hl2 hqb (by unfold qL; rw [List.length_map, HZL.out]) hown hz)
      have HB := Lib.hid hb
      clear hz hown hb HH htk hme hqb hps
      have HPB := Lib.hid (fun C (hC : SP (rkAt m W zs) 0 k C) => parts_ok2 (M := m) (W := W) (by omega) HZL.out (by omega) HS.out HUW.out hC hln HL.out)
      by_cases ha0 : a < 0
      · go_upto_region 17 with (go_at_call 19; refine HAO.out.mono ?_; rintro e w4 ⟨rfl, C, h1, h2, h3⟩; have H1 := Lib.hid h1; have H2 := Lib.hid h2; have H3 := Lib.hid h3; clear h1 h2 h3)
        have hpp := HPB.out C H1.out
        have hPL : (addL (qL m W zs) ((nats C).take l)).length = k := by rw [addL_length]; unfold qL; rw [List.length_map, HZL.out]
        have HSG := Lib.hid (fun P => show sgnL a P = P.map (fun x => -x) from if_pos ha0)
        have HH1 := H1.out; have HH2 := H2.out; have HH3 := H3.out
        obtain ⟨P, hP⟩ : ∃ P, addL (qL m W zs) ((nats C).take l) = P := ⟨_, rfl⟩
        have HPE := Lib.hid hP
        rw [hP] at hpp hPL HH2
        have HPP := Lib.hid hpp.2; have HPL := Lib.hid hPL
        have HB4 := Lib.hid (HB.out.trans HH3)
        have HO4 := Lib.hid HH2
        clear hpp hPL hP HH1 HH2 HH3 HPB HAO H2 H3
        go_wp2_with fail
        go_loopw [80] (fun i wrx => ∃ j : Nat, j ≤ k ∧ i = .int .i64 j ∧ Hid (wrx.ownsRow w.heap.size 3 1 (.slice (some ⟨w.heap.size, 0, none⟩) k k) k ((negL P j).map (Value.int .i64))) ∧ Below w.heap.size w wrx) (fun i _ => k - (intOf i).toNat)
        case atStart => exact ⟨0, by omega, rfl, Lib.hid (by rw [negL_zero]; exact HO4.out), HB4.out⟩
        case round =>
          clear HO4 HB4
          obtain ⟨j, hj, rfl, HO, hb5⟩ := hrel
          by_cases hlj : j < k
          · obtain ⟨y, hy, y0, y1, _⟩ := HPP.out j hlj
            have hset := negL_set (P := P) (k := j) (by rw [HPL.out]; exact hlj)
            have hat := negL_at (P := P) (k := j) (by rw [HPL.out]; exact hlj)
            rw [hy] at hset hat
            have hnl : (negL P j).length = k := by rw [negL_length, HPL.out]
            obtain ⟨p1, p2⟩ := hi_of_own HO.out hnl j (by omega)
            rw [hat] at p1
            have RO := Lib.hid (show (wr.setCell ⟨w.heap.size, j, none⟩ (.int .i64 (-y))).ownsRow w.heap.size 3 1 (.slice (some ⟨w.heap.size, 0, none⟩) k k) k ((negL P (j + 1)).map (Value.int .i64)) from by
              have := (World.ownsRow.stored HO.out j (.int .i64 (-y))).1
              rw [← hset, List.map_set]
              exact this)
            have RB := Lib.hid (hb5.setCell (p := ⟨w.heap.size, j, none⟩) (Nat.le_refl _) (.int .i64 (-y)))
            have hlj' : (j : Int) < (k : Int) := by omega
            clear hset hat hnl hy hb5 HO
            go_wp2_with fail
            go_roundw
            case rel => exact ⟨j + 1, by omega, by go_num, RO, RB.out⟩
            case measure => simp [intOf]; omega
          · obtain rfl : j = k := by omega
            have HN := Lib.hid (negL_all HPL.out)
            go_wp2_with fail
            go_ret2
            exact ⟨C, l, rfl, H1.out, hln, HL.out, by rw [HPE.out, HSG.out, ← HN.out]; exact HO.out, hb5⟩
      · have HSG := Lib.hid (fun P => show sgnL a P = P from if_neg ha0)
        go_wp2_with (go_at_call 19; refine HAO.out.mono ?_; rintro e w4 ⟨rfl, C, h1, h2, h3⟩; have H1 := Lib.hid h1; have H2 := Lib.hid h2; have H3 := Lib.hid h3; clear h1 h2 h3)
        go_ret2
        exact ⟨C, l, rfl, H1.out, hln, HL.out, by rw [HSG.out]; exact H2.out, HB.out.trans H3.out⟩
end Go.Proofs.YtopngdjhnljmfaaDoor
