/- Walk: amounts are converted to whole units that add up to the rounded sum. -/
import Derived.Test.YtopngdjhnljmfaaDoorRndM
import Derived.Test.YtopngdjhnljmfaaDoorAmtSum
namespace Go.Proofs.YtopngdjhnljmfaaDoor
open Go.RowKit Go.Sort St

theorem below_none {w w' : World} (h : w.grownBy w' none) : Below w.heap.size w w' := (Below.refl _ _).grown h (Nat.le_refl _) (fun _ h => by cases h)
theorem zeros_row (n : Nat) : (madeCells (Value.int IntKind.i64 0).cells (n * 1)).toList = (List.replicate n (0 : Int)).map (Value.int .i64) := by rw [made_ints]; simp
/-- The rest of an element by its place. -/
def restAt (zs : List Int) (i : Int) : Int := zs.getD i.toNat 0 % 10000
theorem restAt_of (zs : List Int) (i : Nat) (h : i < zs.length) : (zs.map (· % 10000)).getD i 0 = restAt zs (i : Int) := by
  unfold restAt
  rw [show ((i : Int)).toNat = i by omega]
  simp [List.getD, List.getElem?_eq_getElem h]

set_option maxHeartbeats 4000000 in
theorem round_any (A : Option Addr) (n c : Nat) (zs : List Int) (w : World) (hA : Ints w A n zs) (hn : n ≤ 4096) (hok : zs.all okA = true) :
    Calls Tryd.prog 14 #[.slice A n c] w fun e w' => ∃ (C : List Int) (m : Nat), e = .returned (.slice (some ⟨w.heap.size, 0, none⟩) n n) ∧ SP (restAt zs) 0 n C ∧ m ≤ n ∧ (m : Int) = rndV zs.sum - (zs.map (· / 10000)).sum ∧
      w'.ownsRow w.heap.size 3 1 (.slice (some ⟨w.heap.size, 0, none⟩) n n) n ((addL (zs.map (· / 10000)) ((nats C).take m)).map (Value.int .i64)) ∧ Below w.heap.size w w' := by
  obtain ⟨i0, hi0, hz0, hz1, hz2⟩ := info_parts intInfo
  have hzl : zs.length = n := hA.1
  have hT := tot_good (zs := zs) (by omega) hok
  have HT0 := total_any A n c zs w hA (by unfold maxLen; omega)
  rw [hT.1, hT.2] at HT0
  have HT := Lib.hid HT0
  clear HT0
  have hSb := sum_bound hok
  obtain ⟨m, hmn, hm⟩ := missing hzl
  have HM := Lib.hid hm
  have HOK := Lib.hid hok
  have HZL := Lib.hid hzl
  have HA := Lib.hid hA
  obtain ⟨S, hS⟩ : ∃ S, zs.sum = S := ⟨_, rfl⟩
  have HR := Lib.hid (rounded_any S (by rw [← hS]; omega))
  have hRb : -922337203685477 ≤ rndV S ∧ rndV S ≤ 922337203685477 := by
    have h1 := rest_sum zs
    have h2 := floor_sum hok
    rw [← hS]
    omega
  obtain ⟨R, hRe⟩ : ∃ R, rndV S = R := ⟨_, rfl⟩
  rw [hRe] at HR hRb
  rw [hS] at HT
  have HRE : Hid ((m : Int) = R - (zs.map (· / 10000)).sum) := Lib.hid (by rw [hm, hS, hRe])
  clear hA hok hT hm hRe hS hSb hzl
  go_enter Tryd.func14, Tryd.ntmps14
  go_upto_region 6 with (first
    | (go_at_call 27; refine HT.out.mono ?_; rintro e w1 ⟨rfl, rfl⟩)
    | (go_at_call 28; refine (HR.out _).mono ?_; rintro e w1 ⟨rfl, rfl⟩)
    | (at_make; refine wpList_make_full _ rfl _ _ 22 rfl w.heap.size 3 i0 (.int .i64 0) 1 Tryd.underlying22 hi0 hz0 hz1 _ _ _ _ n rfl rfl (by omega) (by omega) (by rw [hz2]; omega) (by unfold maxLen; omega) (by simp) ?_; intro w1 hownP hgP; rw [zeros_row] at hownP; have HOP := Lib.hid hownP; have HGP := Lib.hid hgP; clear hownP hgP))
  have hlt1 := (own_lt HOP.out).2
  go_wp2_with (at_make; refine wpList_make_full _ rfl _ _ 22 rfl w1.heap.size 3 i0 (.int .i64 0) 1 Tryd.underlying22 hi0 hz0 hz1 _ _ _ _ n rfl rfl (by omega) (by omega) (by rw [hz2]; omega) (by unfold maxLen; omega) (by simp) ?_; intro w2 hownR hgR; rw [zeros_row] at hownR; have HOR := Lib.hid hownR; have HGR := Lib.hid hgR; clear hownR hgR)
  have hlt2 := (own_lt HOR.out).2
  go_loopw [5, 27] (fun mv i wr => ∃ k : Nat, k ≤ n ∧ i = .int .i64 k ∧ mv = .int .i64 (R - ((zs.take k).map (· / 10000)).sum) ∧
      wr.ownsRow w.heap.size 3 1 (.slice (some ⟨w.heap.size, 0, none⟩) n n) n ((fillL (· / 10000) zs n k).map (Value.int .i64)) ∧ Hid (HI wr w1.heap.size (fillL (· % 10000) zs n k)) ∧ Below w.heap.size w wr ∧ w1.heap.size < wr.heap.size) (fun _ i _ => n - (intOf i).toNat)
  case atStart =>
    refine ⟨0, by omega, rfl, by simp, ?_, Lib.hid ?_, ?_, hlt2⟩
    · rw [fillL_zero]; exact ownsRow_below HOP.out (below_none HGR.out)
    · rw [fillL_zero]; exact hi_of_own HOR.out (by simp)
    · exact (below_none HGP.out).trans ((below_none HGR.out).mono (by omega))
  case round =>
    clear HOP HOR HGP HGR HT HR
    obtain ⟨k, hk, rfl, rfl, hown, HH, hb, hl2⟩ := hrel
    by_cases hlt : k < n
    · obtain ⟨b, off, rfl, hbl, hc0⟩ := HA.out.2.2 k hlt
      have hc : wr.cell? ⟨b, off + k, none⟩ = some (.int .i64 (zs[k]?.getD 0)) := (hb.cell (p := ⟨b, off + k, none⟩) hbl).trans hc0
      have hts := take_step zs k (by rw [HZL.out]; omega)
      have hokz : okA (zs[k]?.getD 0) = true := by
        have hl : k < zs.length := by rw [HZL.out]; exact hlt
        rw [List.getElem?_eq_getElem hl]
        exact List.all_eq_true.1 HOK.out _ (List.getElem_mem hl)
      have hzb := okA_iff.1 hokz
      have hfs := floor_sum (l := zs.take k) (by
        rw [List.all_eq_true]; intro x hx; exact List.all_eq_true.1 HOK.out x (List.mem_of_mem_take hx))
      rw [show (zs.take k).length = k by rw [List.length_take, HZL.out]; omega] at hfs
      have f1 := fillL_set (· / 10000) HZL.out hlt
      have f2 := fillL_set (· % 10000) HZL.out hlt
      have hsum : ((zs.take (k + 1)).map (· / 10000)).sum = ((zs.take k).map (· / 10000)).sum + (zs[k]?.getD 0) / 10000 := by rw [hts]; simp
      generalize zs[k]?.getD 0 = z at *
      generalize ((zs.take k).map (· / 10000)).sum = T at *
      have HF := Lib.hid (floor_any z hzb)
      have hq : -112589990685 ≤ z / 10000 ∧ z / 10000 ≤ 112589990685 := by omega
      have hfl1 := fillL_length (· / 10000) HZL.out hk
      have hfl2 := fillL_length (· % 10000) HZL.out hk
      obtain ⟨p1, p2⟩ := hi_of_own hown hfl1 k (by omega)
      have p3 := HH.out k (by omega)
      have hRb2 : -922337203685477 - 112589990685 * (k : Int) ≤ R - T ∧ R - T ≤ 922337203685477 + 112589990685 * (k : Int) := by omega
      obtain ⟨Q, hQ⟩ : ∃ Q, z / 10000 = Q := ⟨_, rfl⟩
      obtain ⟨Z, hZ⟩ : ∃ Z, z % 10000 = Z := ⟨_, rfl⟩
      rw [hQ, hZ] at HF
      rw [hQ] at hsum hq
      simp only [hQ] at f1
      simp only [hZ] at f2
      have RO : (wr.setCell ⟨w.heap.size, k, none⟩ (.int .i64 Q)).ownsRow w.heap.size 3 1 (.slice (some ⟨w.heap.size, 0, none⟩) n n) n ((fillL (· / 10000) zs n (k + 1)).map (Value.int .i64)) := by
        have := (World.ownsRow.stored hown k (.int .i64 Q)).1
        rw [← f1, List.map_set]
        exact this
      have RO2 := Lib.hid (ownsRow_setOther RO w1.heap.size k (by omega) (.int .i64 Z))
      have RH : HI ((wr.setCell ⟨w.heap.size, k, none⟩ (.int .i64 Q)).setCell ⟨w1.heap.size, k, none⟩ (.int .i64 Z)) w1.heap.size (fillL (· % 10000) zs n (k + 1)) := by
        rw [← f2]
        exact (hi_setOther HH.out (by omega) _).set_ k (by omega) Z
      have RH2 := Lib.hid RH
      have RB := Lib.hid ((hb.setCell (p := ⟨w.heap.size, k, none⟩) (Nat.le_refl _) (.int .i64 Q)).setCell (p := ⟨w1.heap.size, k, none⟩) (Nat.le_of_lt hlt1) (.int .i64 Z))
      have c1 : ((wr.setCell ⟨w.heap.size, k, none⟩ (.int .i64 Q)).setCell ⟨w1.heap.size, k, none⟩ (.int .i64 Z)).cell? ⟨w.heap.size, k, none⟩ = some (.int .i64 Q) := by
        rw [World.cell?_setCell_other _ _ _ _ (by intro e'; simp only [Addr.mk.injEq] at e'; omega), World.cell?_setCell_same _ _ _ p1]
      have p4 : (wr.setCell ⟨w.heap.size, k, none⟩ (.int .i64 Q)).cell? ⟨w1.heap.size, k, none⟩ = some (.int .i64 ((fillL (· % 10000) zs n k).getD k 0)) := (hi_setOther HH.out (by omega) _ k (by omega)).1
      have hlt' : (k : Int) < (n : Int) := by omega
      have p31 := p3.1
      have p32 := p3.2
      clear p3 RO RH f1 f2 hown hb HH hts hokz hzb hQ hZ hfl1 hfl2 hc0
      go_wp2_with (go_at_call 29; refine (HF.out _).mono ?_; rintro e w3 ⟨rfl, rfl⟩)
      go_roundw
      case rel => exact ⟨k + 1, by omega, by go_num, by rw [hsum]; congr 1; omega, RO2.out, RH2, RB.out, by simpa [World.setCell] using hl2⟩
      case measure => simp [intOf]; omega
    · obtain rfl : k = n := by omega
      have htk : zs.take k = zs := List.take_of_length_le (by rw [HZL.out]; omega)
      rw [htk]
      have hme : R - (zs.map (· / 10000)).sum = (m : Int) := HRE.out.symm
      rw [hme]
      rw [fillL_all _ HZL.out] at hown
      have hz : ∀ i : Nat, i < k → wr.cell? ⟨w1.heap.size, 0 + i, none⟩ = some (.int .i64 (restAt zs i)) := fun i hi => by
        have := HH.out
        rw [fillL_all _ HZL.out] at this
        rw [Nat.zero_add, (this i (by rw [List.length_map, HZL.out]; exact hi)).1, restAt_of zs i (by rw [HZL.out]; exact hi)]
      have HAO := Lib.hid (addOnes_gen k m w.heap.size w.heap.size k w1.heap.size 0 k (restAt zs) (zs.map (· / 10000)) wr (by omega) hmn (Nat.le_refl _) (by omega) hl2 (by
          intro x hx
          obtain ⟨z, hz1, rfl⟩ := List.mem_map.1 hx
          have := okA_iff.1 (List.all_eq_true.1 HOK.out z hz1)
          omega) (by rw [List.length_map, HZL.out]) hown hz)
      have HB := Lib.hid hb
      clear hz hown hb HH htk hme
      go_wp2_with (go_at_call 19; refine HAO.out.mono ?_; rintro e w4 ⟨rfl, C, h1, h2, h3⟩; have H1 := Lib.hid h1; have H2 := Lib.hid h2; have H3 := Lib.hid h3; clear h1 h2 h3)
      go_ret
      exact ⟨C, m, rfl, H1.out, hmn, HM.out, H2.out, HB.out.trans H3.out⟩
end Go.Proofs.YtopngdjhnljmfaaDoor
