/- Walk: the reference's Split. -/
import Derived.Test.YtopngdjhnljmfaaDoorRefRnd
import Derived.Test.YtopngdjhnljmfaaDoorSplit
import Derived.Test.YtopngdjhnljmfaaDoorRefDiv
import Derived.Deep.Cut
namespace Go.Proofs.YtopngdjhnljmfaaDoor
open Go.RowKit St

theorem dr_own {w w3 : World} {q base n : Nat} {t : TypeId} {size : Nat} {v : Value} {xs : List Value} (e : w3 = w.drewN q) (h : w.ownsRow base t size v n xs) : w3.ownsRow base t size v n xs := by subst e; exact h
theorem dr_cell {w w3 : World} {q : Nat} {a : Addr} {v : Value} (e : w3 = w.drewN q) (h : w.cell? a = some v) : w3.cell? a = some v := by subst e; exact h
theorem dr_below {B : Nat} {a w w3 : World} {q : Nat} (e : w3 = w.drewN q) (h : Below B a w) : Below B a w3 := by subst e; exact ⟨h.os, h.tape, h.output, h.size, h.block⟩
theorem dr_size {w w3 : World} {q : Nat} (e : w3 = w.drewN q) : w3.heap.size = w.heap.size := by subst e; rfl
theorem own_slice {w : World} {base e n : Nat} {v : Value} {xs : List Value} (h : w.ownsRow base e 1 v n xs) (hn : 0 < n) : ∃ g c, v = .slice (some ⟨g, 0, none⟩) n c ∧ base ≤ g ∧ g < w.heap.size := by
  obtain ⟨A, c, rfl, _, hg⟩ := own_form h
  obtain ⟨g, rfl, h1, h2, _⟩ := hg hn
  exact ⟨g, c, rfl, h1, h2⟩
set_option maxRecDepth 100000 in
set_option maxHeartbeats 8000000 in
theorem refSplit_bad (a : Int) (A : Option Addr) (n c : Nat) (zs : List Int) (w : World) (hA : Ints w A n zs) (hn : n ≤ 4096) (E : Int) (hE : twE a zs = E) (h0 : E ≠ 0) :
    Calls Tryd.prog 7 #[.int .i64 a, .slice A n c] w fun e w' => e = .returned (.tuple #[.slice none 0 0, .int .i64 E]) ∧ w = w' := by
  have hzl : zs.length = n := hA.1
  have HV := Lib.hid (fun W => refValid_any a W)
  by_cases hlong : (64 : Int) < (n : Int)
  · obtain rfl : E = 5 := by rw [← hE]; exact (tw_long (by omega)).1
    clear hA hE
    go_enter Tryd.func7, Tryd.ntmps7
    go_wp2
    go_ret2
    exact ⟨rfl, rfl⟩
  · cases hoa : okA a with
    | false =>
      obtain rfl : E = 6 := by rw [← hE]; exact (tw_badA (by omega) hoa).1
      rw [hoa] at HV
      clear hA hE
      go_enter Tryd.func7, Tryd.ntmps7
      go_wp2_with (go_at_call 9; refine (HV.out _).mono ?_; rintro e w3 ⟨rfl, rfl⟩)
      go_ret2
      exact ⟨rfl, rfl⟩
    | true =>
      rw [hoa] at HV
      have HA := Lib.hid hA; have HZL := Lib.hid hzl
      have HB : Hid (zs.all okU = false → E = 6) := Lib.hid (fun h => by rw [← hE]; exact (tw_badW (by omega) hoa h).1)
      have HZ : Hid (zs.all okU = true → zs.sum = 0 ∧ E = 8) := Lib.hid (fun h => by
        by_cases hs : zs.sum = 0
        · exact ⟨hs, by rw [← hE]; exact (tw_none (by omega) hoa h hs).1⟩
        · exact absurd (by rw [← hE]; exact (tw_good (by omega) hoa h hs).1) h0)
      have hni : (n : Int) ≤ 64 := by omega
      clear hA hE h0 hzl hoa hn
      go_enter Tryd.func7, Tryd.ntmps7
      go_wp2_with (go_at_call 9; refine (HV.out _).mono ?_; rintro e w3 ⟨rfl, rfl⟩)
      go_loopw [6, 7] (fun sv iv wr => ∃ k : Nat, k ≤ n ∧ iv = .int .i64 k ∧ sv = .int .i64 (zs.take k).sum ∧ Hid ((zs.take k).all okU = true) ∧ wr = w) (fun _ iv _ => n - (intOf iv).toNat)
      case atStart => exact ⟨0, by omega, rfl, by simp, by show _ = _; simp, rfl⟩
      case round =>
        obtain ⟨k, hk, rfl, rfl, HT, rfl⟩ := hrel
        have hub := usum_bound HT.out
        rw [show (zs.take k).length = k by rw [List.length_take, HZL.out]; omega] at hub
        by_cases hlt : k < n
        · obtain ⟨b, off, rfl, hbl, hc0⟩ := HA.out.2.2 k hlt
          have hlt' : (k : Int) < (n : Int) := by omega
          have hzk : k < zs.length := by rw [HZL.out]; exact hlt
          have hts := take_step zs k hzk
          obtain ⟨z, hz⟩ : ∃ z, zs[k]?.getD 0 = z := ⟨_, rfl⟩
          have hrg := HA.out.range k hlt
          rw [hz] at hc0 hts hrg
          obtain ⟨S, hS⟩ : ∃ S, (zs.take k).sum = S := ⟨_, rfl⟩
          rw [hS] at hub ⊢
          by_cases hzo : okU z = true
          · obtain ⟨z0, z1⟩ := okU_iff.1 hzo
            have zn : ¬ z < 0 := by omega
            have zm : ¬ (1099511627776 < z) := by omega
            have HT2 : Hid ((zs.take (k + 1)).all okU = true) := Lib.hid (by rw [hts, List.all_append, HT.out]; simp [hzo])
            have HTS : Hid ((zs.take (k + 1)).sum = S + z) := Lib.hid (by rw [hts, List.sum_append, hS]; simp)
            clear hts hz hzo hS hrg hzk
            go_wp2
            go_roundw
            case rel => exact ⟨k + 1, by omega, by go_num, by rw [HTS.out], HT2.out, by first | trivial | rfl⟩
            case measure => simp [intOf]; omega
          · have hbad : zs.all okU = false := by
              cases hall : zs.all okU with
              | false => rfl
              | true =>
                exfalso; apply hzo
                rw [← hz, List.getElem?_eq_getElem hzk]
                exact List.all_eq_true.1 hall _ (List.getElem_mem hzk)
            have h6 := HB.out hbad
            subst h6
            clear hts hz hS hbad hzk HB HZ
            by_cases z0 : z < 0
            · clear hzo
              go_wp2
              go_ret2
              exact ⟨rfl, rfl⟩
            · have zm : 1099511627776 < z := by
                rcases Int.lt_or_le 1099511627776 z with h | h
                · exact h
                · exact absurd (okU_iff.2 ⟨by omega, h⟩) hzo
              clear hzo
              go_wp2
              go_ret2
              exact ⟨rfl, rfl⟩
        · obtain rfl : k = n := by omega
          have htk : zs.take k = zs := List.take_of_length_le (by rw [HZL.out]; omega)
          rw [htk] at HT ⊢
          obtain ⟨hs0, h8⟩ := HZ.out HT.out
          subst h8
          rw [hs0]
          clear htk hub
          go_wp2
          go_ret2
          exact ⟨rfl, rfl⟩

set_option maxRecDepth 100000 in
set_option maxHeartbeats 16000000 in
theorem refSplit_pos (A : Option Addr) (n c m W l : Nat) (zs C : List Int) (w : World) (hA : Ints w A n zs) (hn : n ≤ 64) (hm2 : m ≤ 1125899906842624) (hok : zs.all okU = true) (hs : zs.sum = (W : Int)) (hW : 0 < W) (hC : SP (rkAt m W zs) 0 n C) (hln : l ≤ n) (hl : (l : Int) = m - (qL m W zs).sum) :
    Calls Tryd.prog 7 #[.int .i64 (m : Int), .slice A n c] w fun e w' => ∃ g d, e = .returned (.tuple #[.slice (some ⟨g, 0, none⟩) n d, .int .i64 0]) ∧ w'.ownsRow w.heap.size 3 1 (.slice (some ⟨g, 0, none⟩) n d) n ((addL (qL m W zs) ((nats C).take l)).map (Value.int .i64)) ∧ Below w.heap.size w w' := by
  obtain ⟨i0, hi0, hz0, hz1, hz2⟩ := info_parts intInfo
  have hzl : zs.length = n := hA.1
  have hub := usum_bound hok
  have hW2 : W ≤ 70368744177664 := by omega
  have hn0 : 0 < n := by
    rcases Nat.eq_zero_or_pos n with h | h
    · exfalso
      have : zs = [] := List.length_eq_zero_iff.1 (by omega)
      rw [this] at hs; simp at hs; omega
    · exact h
  have hnn : ∀ x ∈ zs, 0 ≤ x := fun x hx => (okU_iff.1 (List.all_eq_true.1 hok x hx)).1
  have hle : ∀ x ∈ zs, x ≤ (W : Int) := by
    intro z hz1
    rw [← hs]
    obtain ⟨i, hi, rfl⟩ := List.getElem_of_mem hz1
    have h1 := take_sum_le hnn (i + 1)
    have h2 := sum_ge_of (l := zs.take i) (fun x hx => hnn x (List.mem_of_mem_take hx))
    rw [take_step zs i hi, List.sum_append, List.getElem?_eq_getElem hi] at h1
    simp at h1
    omega
  have HUW : Hid (∀ x ∈ zs, 0 ≤ x ∧ x ≤ (W : Int)) := Lib.hid (fun x hx => ⟨hnn x hx, hle x hx⟩)
  have hqb : ∀ x ∈ qL m W zs, -1125899906842624 ≤ x ∧ x ≤ 1125899906842624 := by
    intro x hx
    obtain ⟨z, hz1, rfl⟩ := List.mem_map.1 hx
    have h0 := hnn z hz1
    have h1 := hle z hz1
    have h2 := Int.mul_le_mul_of_nonneg_left h1 (show (0 : Int) ≤ (m : Int) by omega)
    have h3 := Int.ediv_nonneg (Int.mul_nonneg (show (0 : Int) ≤ (m : Int) by omega) h0) (show (0 : Int) ≤ (W : Int) by omega)
    have h4 : (m : Int) * z / (W : Int) ≤ (m : Int) := Int.ediv_le_of_le_mul (by omega) h2
    omega
  have hpp := parts_ok2 (M := m) (W := W) (by omega) hzl (by omega) hs HUW.out hC hln hl
  have HG := Lib.hid (fun A B c c' W1 h1 h2 => give_any A B n c c' l (qL m W zs) (rL m W zs) C (rkAt m W zs) W1 h1 h2 (by unfold qL; rw [List.length_map]; exact hzl) (by unfold rL; rw [List.length_map]; exact hzl) (by omega) hqb (fun i hi => by unfold rL; exact rkAt_of _ _ zs i (by omega)) (fun i hi => by unfold rkAt; exact Int.emod_nonneg _ (by omega)) hC hln)
  have HV := Lib.hid (fun W1 => refValid_any (m : Int) W1)
  rw [show okA (m : Int) = true from okA_iff.2 (by omega)] at HV
  have HA := Lib.hid hA; have HOK := Lib.hid hok; have HZL := Lib.hid hzl; have HS := Lib.hid hs; have HNN := Lib.hid hnn; have HL := Lib.hid hl; have HPP := Lib.hid hpp.2
  have hql : (addL (qL m W zs) ((nats C).take l)).length = n := by rw [addL_length]; unfold qL; rw [List.length_map, hzl]
  obtain ⟨P, hP⟩ : ∃ P, addL (qL m W zs) ((nats C).take l) = P := ⟨_, rfl⟩
  have HPE := Lib.hid hP
  rw [hP] at hql HPP HG
  have HPL := Lib.hid hql
  have hni : (n : Int) ≤ 64 := by omega
  have hmi : (m : Int) ≤ 1125899906842624 := by omega
  clear hA hok hs hnn hle hqb hpp hzl hub hC hl hP hql hn
  go_enter Tryd.func7, Tryd.ntmps7
  go_wp2_with (go_at_call 9; refine (HV.out _).mono ?_; rintro e w3 ⟨rfl, rfl⟩)
  go_loopw [6, 7] (fun sv iv wr => ∃ k : Nat, k ≤ n ∧ iv = .int .i64 k ∧ sv = .int .i64 (zs.take k).sum ∧ wr = w) (fun _ iv _ => n - (intOf iv).toNat)
  case atStart => exact ⟨0, by omega, rfl, by simp, rfl⟩
  case round =>
    obtain ⟨k, hk, rfl, rfl, hww⟩ := hrel
    have hww2 := hww.symm
    subst hww2
    clear hww
    have ht0 := sum_ge_of (l := zs.take k) (fun x hx => HNN.out x (List.mem_of_mem_take hx))
    have ht1 := take_sum_le HNN.out k
    rw [HS.out] at ht1
    by_cases hlt : k < n
    · obtain ⟨b, off, rfl, hbl, hc0⟩ := HA.out.2.2 k hlt
      have hlt' : (k : Int) < (n : Int) := by omega
      have hzk : k < zs.length := by rw [HZL.out]; exact hlt
      have hts := take_step zs k hzk
      have hzo := okU_iff.1 (show okU (zs[k]?.getD 0) = true by rw [List.getElem?_eq_getElem hzk]; exact List.all_eq_true.1 HOK.out _ (List.getElem_mem hzk))
      obtain ⟨z, hz⟩ : ∃ z, zs[k]?.getD 0 = z := ⟨_, rfl⟩
      rw [hz] at hc0 hts hzo
      obtain ⟨S, hS⟩ : ∃ S, (zs.take k).sum = S := ⟨_, rfl⟩
      have HTS : Hid ((zs.take (k + 1)).sum = S + z) := Lib.hid (by rw [hts, List.sum_append, hS]; simp)
      rw [hS] at ht0 ht1 ⊢
      have zn : ¬ z < 0 := by omega
      have zm : ¬ (1099511627776 < z) := by omega
      clear hts hz hS hzk
      go_wp2
      go_roundw
      case rel => exact ⟨k + 1, by omega, by go_num, by rw [HTS.out], by first | trivial | rfl⟩
      case measure => simp [intOf]; omega
    · obtain rfl : k = n := by omega
      have htk : zs.take k = zs := List.take_of_length_le (by rw [HZL.out]; omega)
      rw [htk, HS.out]
      have hw0 : ¬ (W : Int) = 0 := by omega
      have hwb : ((W : Int) == 0) = false := by simp; omega
      have hsg : ¬ (m : Int) < 0 := by omega
      clear ht0 ht1 htk
      go_upto_region 18 with fail
      have hb0 : Below w.heap.size w ((w.alloc (.cells #[] 3)).alloc (.cells #[] 3)) := ((Below.refl _ _).alloc (Nat.le_refl _) _).alloc (by simp) _
      have ho5 : ((w.alloc (.cells #[] 3)).alloc (.cells #[] 3)).ownsRow w.heap.size 3 1 (.slice (some ⟨w.heap.size, 0, none⟩) 0 0) 0 [] := World.ownsRow.alloc (own_lit w 3) _
      have ho6 : ((w.alloc (.cells #[] 3)).alloc (.cells #[] 3)).ownsRow w.heap.size 3 1 (.slice (some ⟨w.heap.size + 1, 0, none⟩) 0 0) 0 [] :=
        ⟨rfl, .inr ⟨w.heap.size + 1, 0, #[], rfl, by omega, by have := heap_alloc_new (w.alloc (.cells #[] 3)) (.cells #[] 3); simpa using this, by omega, by decide, rfl, rfl⟩⟩
      clear hw0 hwb hsg
      go_wp2_with fail
      go_loopw [9, 10, 11, 12] (fun v5 v6 hv iv wr => ∃ (j g5 c5 g6 c6 : Nat), j ≤ k ∧ iv = .int .i64 j ∧ hv = .int .i64 (qL m W (zs.take j)).sum ∧ v5 = .slice (some ⟨g5, 0, none⟩) j c5 ∧ v6 = .slice (some ⟨g6, 0, none⟩) j c6 ∧
          g5 ≠ g6 ∧ Hid (wr.ownsRow w.heap.size 3 1 (.slice (some ⟨g5, 0, none⟩) j c5) j ((qL m W (zs.take j)).map (Value.int .i64))) ∧ Hid (wr.ownsRow w.heap.size 3 1 (.slice (some ⟨g6, 0, none⟩) j c6) j ((rL m W (zs.take j)).map (Value.int .i64))) ∧ Below w.heap.size w wr) (fun _ _ _ iv _ => k - (intOf iv).toNat)
      case atStart => exact ⟨0, w.heap.size, 0, w.heap.size + 1, 0, by omega, rfl, by simp [qL], rfl, rfl, by omega, Lib.hid (by simpa [qL] using ho5), Lib.hid (by simpa [rL] using ho6), hb0⟩
      case round =>
        clear hb0 ho5 ho6
        obtain ⟨j, g5, c5, g6, c6, hj, rfl, rfl, rfl, rfl, hne, HO5, HO6, hb⟩ := hrel
        have hsz := hb.size
        have hps := part_sum_le (M := m) (W := W) (ws := zs) (by omega) (by omega) HS.out HNN.out j
        by_cases hlj : j < k
        · obtain ⟨b, off, rfl, hbl, hc0⟩ := HA.out.2.2 j hlj
          have hc : wr.cell? ⟨b, off + j, none⟩ = some (.int .i64 (zs[j]?.getD 0)) := (hb.cell (p := ⟨b, off + j, none⟩) hbl).trans hc0
          have hzk : j < zs.length := by rw [HZL.out]; exact hlj
          have hts := take_step zs j hzk
          have hzo := okU_iff.1 (show okU (zs[j]?.getD 0) = true by rw [List.getElem?_eq_getElem hzk]; exact List.all_eq_true.1 HOK.out _ (List.getElem_mem hzk))
          have hzw := HUW.out (zs[j]?.getD 0) (by rw [List.getElem?_eq_getElem hzk]; exact List.getElem_mem _)
          have hps1 := part_sum_le (M := m) (W := W) (ws := zs) (by omega) (by omega) HS.out HNN.out (j + 1)
          obtain ⟨z, hz⟩ : ∃ z : Nat, zs[j]?.getD 0 = (z : Int) := ⟨(zs[j]?.getD 0).toNat, by omega⟩
          rw [hz] at hc hts hzo hzw
          obtain ⟨s1, s2, s3⟩ := share_nat hm2 (show z ≤ W by omega) hW hW2
          have HD0 := Lib.hid (fun wx => refDivide m z W (by omega) (by omega) hW hW2 wx)
          rw [show capped (m * z / W) = m * z / W from by unfold capped; omega] at HD0
          have hT5 : qL m W (zs.take (j + 1)) = qL m W (zs.take j) ++ [((m * z / W : Nat) : Int)] := by unfold qL; rw [hts, List.map_append]; simp
          have hT6 : rL m W (zs.take (j + 1)) = rL m W (zs.take j) ++ [((m * z % W : Nat) : Int)] := by unfold rL; rw [hts, List.map_append]; simp
          obtain ⟨Q, hQ⟩ : ∃ Q, m * z / W = Q := ⟨_, rfl⟩
          obtain ⟨R, hR⟩ : ∃ R, m * z % W = R := ⟨_, rfl⟩
          rw [hQ] at hT5 s2
          rw [hR] at hT6 s3
          rw [hQ, hR] at HD0
          rw [hT5, List.sum_append] at hps1
          obtain ⟨T, hT⟩ : ∃ T, (qL m W (zs.take j)).sum = T := ⟨_, rfl⟩
          rw [hT] at hps hps1 ⊢
          have HTT : Hid ((qL m W (zs.take (j + 1))).sum = T + Q) := Lib.hid (by rw [hT5, List.sum_append, hT]; simp)
          have HT5 := Lib.hid hT5; have HT6 := Lib.hid hT6
          have hlj' : (j : Int) < (k : Int) := by omega
          have hQm : (Q : Int) ≤ (m : Int) := by omega
          have hRm : (R : Int) < (W : Int) := by omega
          have hTQ : T + (Q : Int) ≤ (m : Int) := by have := hps1.2; simp at this; omega
          clear hc0 hts hz hQ hR hT hT5 hT6 hzk hps1 s1
          go_wp2_with (first
            | (go_at_call 10; refine (HD0.out _).mono ?_; rintro e w3 ⟨rfl, q3, hq3⟩; have HO5 := Lib.hid (dr_own hq3 HO5.out); have HO6 := Lib.hid (dr_own hq3 HO6.out); have hc3 := dr_cell hq3 hc; have HB3 := Lib.hid (dr_below hq3 hb); have HS3 := Lib.hid (dr_size hq3); clear hq3)
            | (at_builtin; refine wpList_append_lies _ rfl (.tmp 70) (.tmp 72) 22 rfl w.heap.size 3 i0 (.int .i64 0) 1 8 Tryd.underlying22 hi0 hz0 hz1 hz2 rfl (by decide) _ _ _ rfl (World.ownsRow.alloc HO5.out _) ⟨w3.heap.size, 0, none⟩ 1 1 [.int .i64 Q] rfl rfl (cell_one _ _ _) (by intro u hu; simp at hu; subst hu; rfl) (by omega) (by unfold maxLen; omega) (by omega) (by have := HB3.out.size; simp; omega) (w3.heap.size + 1) (by simp) ?_; intro q5 d5 w5 hown5 hg5 hq5 hl5; have HQ5 := Lib.hid hown5; have HO65 := Lib.hid (own_grown (World.ownsRow.alloc HO6.out (.cells #[.int .i64 Q] 3)) hg5 (by intro h; injection h with h; exact hne h.symm)); have HB5 := Lib.hid (belowB5 HB3.out hg5 (own_lt HO5.out).1); clear hg5 hown5)
            | (at_builtin; refine wpList_append_lies _ rfl (.tmp 74) (.tmp 76) 22 rfl w.heap.size 3 i0 (.int .i64 0) 1 8 Tryd.underlying22 hi0 hz0 hz1 hz2 rfl (by decide) _ _ _ rfl (World.ownsRow.alloc HO65.out _) ⟨w5.heap.size, 0, none⟩ 1 1 [.int .i64 R] rfl rfl (cell_one _ _ _) (by intro u hu; simp at hu; subst hu; rfl) (by omega) (by unfold maxLen; omega) (by omega) (by simp; have := HB5.out.size; omega) (w5.heap.size + 1) (by simp) ?_; intro q6 d6 w6 hown6 hg6 hq6 hl6))
          have hg6l := (own_lt HO6.out).2
          have e5 : q5 = g5 ∨ q5 = w3.heap.size + 1 := by
            rcases hq5 with h | h
            · exact .inl (by injection h with h; exact h.symm)
            · exact .inr h
          have e6 : q6 = g6 ∨ q6 = w5.heap.size + 1 := by
            rcases hq6 with h | h
            · exact .inl (by injection h with h; exact h.symm)
            · exact .inr h
          have hq56 : q5 ≠ g6 := by omega
          have HN5 := Lib.hid (own_grown (World.ownsRow.alloc HQ5.out (.cells #[.int .i64 R] 3)) hg6 (by intro h; injection h with h; exact hq56 h))
          have HN6 := Lib.hid hown6
          have HB6 := Lib.hid (belowB5 HB5.out hg6 (own_lt HO6.out).1)
          have hqq : q5 ≠ q6 := by omega
          clear hg6 hown6 hq5 hq6 e5 e6
          go_roundw
          case rel => exact ⟨j + 1, q5, d5, q6, d6, by omega, by go_num, by rw [HTT.out], rfl, rfl, hqq, Lib.hid (by rw [HT5.out]; simpa using HN5.out), Lib.hid (by rw [HT6.out]; simpa using HN6.out), HB6.out⟩
          case measure => simp [intOf]; omega
        · obtain rfl : j = k := by omega
          have htk : zs.take j = zs := List.take_of_length_le (by rw [HZL.out]; omega)
          rw [htk] at HO5 HO6 hps ⊢
          have hll := HL.out
          obtain ⟨T, hT⟩ : ∃ T, (qL m W zs).sum = T := ⟨_, rfl⟩
          rw [hT] at hll hps ⊢
          have hmt : (m : Int) - T = (l : Int) := by omega
          have hll2 : (l : Int) ≤ 64 := by omega
          have HE := Lib.hid (HG.out (some ⟨g5, 0, none⟩) (some ⟨g6, 0, none⟩) c5 c6 wr (has_own HO5.out (by unfold qL; rw [List.length_map]; exact HZL.out)) (has_own HO6.out (by unfold rL; rw [List.length_map]; exact HZL.out)))
          have HBB := Lib.hid hb
          clear hT htk hb hll HO5 HO6 HG hne
          go_wp2_with (go_at_call 20; (with_reducible refine HE.out.mono ?_); rintro e w4 ⟨v, rfl, hv, hb4⟩; obtain ⟨g, d, rfl, hgb, hgl⟩ := own_slice hv hn0; have HVV := Lib.hid hv; have HB4 := Lib.hid (HBB.out.trans (hb4.mono HBB.out.size)); have HGB := Lib.hid (Nat.le_trans HBB.out.size hgb); clear hv hb4 hgb)
          go_loopw [15] (fun iv wr3 => ∃ t : Nat, t ≤ j ∧ iv = .int .i64 t ∧ Hid (wr3.ownsRow w.heap.size 3 1 (.slice (some ⟨g, 0, none⟩) j d) j ((P).map (Value.int .i64))) ∧ Below w.heap.size w wr3) (fun iv _ => j - (intOf iv).toNat)
          case atStart => exact ⟨0, by omega, rfl, Lib.hid (own_base (HVV.out) HBB.out.size), HB4.out⟩
          case round =>
            obtain ⟨t, ht, rfl, HO, hb5⟩ := hrel
            by_cases hltt : t < j
            · obtain ⟨y, hy, y0, y1, _⟩ := HPP.out t hltt
              have hset : P.set t y = P := by rw [← hy, List.getElem?_eq_getElem (by rw [HPL.out]; exact hltt)]; simp
              have hat : P.getD t 0 = y := by simpa [List.getD] using hy
              have hnl : (P).length = j := HPL.out
              obtain ⟨p1, p2⟩ := hi_of_own HO.out hnl t (by omega)
              rw [hat] at p1
              have RO := Lib.hid (show (wr.setCell ⟨g, t, none⟩ (.int .i64 (y))).ownsRow w.heap.size 3 1 (.slice (some ⟨g, 0, none⟩) j d) j ((P).map (Value.int .i64)) from by
                have := (World.ownsRow.stored HO.out t (.int .i64 (y))).1
                rw [← hset, List.map_set]
                exact this)
              have RB := Lib.hid (hb5.setCell (p := ⟨g, t, none⟩) HGB.out (.int .i64 (y)))
              have hltt' : (t : Int) < (j : Int) := by omega
              clear hset hat hnl hy hb5 HO
              go_wp2_with fail
              go_roundw
              case rel => exact ⟨t + 1, by omega, by go_num, RO, RB.out⟩
              case measure => simp [intOf]; omega
            · obtain rfl : t = j := by omega
              go_wp2_with fail
              go_ret2
              exact ⟨g, d, rfl, by rw [HPE.out]; exact HO.out, hb5⟩

set_option maxRecDepth 100000 in
set_option maxHeartbeats 16000000 in
theorem refSplit_neg (A : Option Addr) (n c m W l : Nat) (zs C : List Int) (w : World) (hA : Ints w A n zs) (hn : n ≤ 64) (hm1 : 1 ≤ m) (hm2 : m ≤ 1125899906842624) (hok : zs.all okU = true) (hs : zs.sum = (W : Int)) (hW : 0 < W) (hC : SP (rkAt m W zs) 0 n C) (hln : l ≤ n) (hl : (l : Int) = m - (qL m W zs).sum) :
    Calls Tryd.prog 7 #[.int .i64 (-(m : Int)), .slice A n c] w fun e w' => ∃ g d, e = .returned (.tuple #[.slice (some ⟨g, 0, none⟩) n d, .int .i64 0]) ∧ w'.ownsRow w.heap.size 3 1 (.slice (some ⟨g, 0, none⟩) n d) n (((addL (qL m W zs) ((nats C).take l)).map (fun x => -x)).map (Value.int .i64)) ∧ Below w.heap.size w w' := by
  obtain ⟨i0, hi0, hz0, hz1, hz2⟩ := info_parts intInfo
  have hzl : zs.length = n := hA.1
  have hub := usum_bound hok
  have hW2 : W ≤ 70368744177664 := by omega
  have hn0 : 0 < n := by
    rcases Nat.eq_zero_or_pos n with h | h
    · exfalso
      have : zs = [] := List.length_eq_zero_iff.1 (by omega)
      rw [this] at hs; simp at hs; omega
    · exact h
  have hnn : ∀ x ∈ zs, 0 ≤ x := fun x hx => (okU_iff.1 (List.all_eq_true.1 hok x hx)).1
  have hle : ∀ x ∈ zs, x ≤ (W : Int) := by
    intro z hz1
    rw [← hs]
    obtain ⟨i, hi, rfl⟩ := List.getElem_of_mem hz1
    have h1 := take_sum_le hnn (i + 1)
    have h2 := sum_ge_of (l := zs.take i) (fun x hx => hnn x (List.mem_of_mem_take hx))
    rw [take_step zs i hi, List.sum_append, List.getElem?_eq_getElem hi] at h1
    simp at h1
    omega
  have HUW : Hid (∀ x ∈ zs, 0 ≤ x ∧ x ≤ (W : Int)) := Lib.hid (fun x hx => ⟨hnn x hx, hle x hx⟩)
  have hqb : ∀ x ∈ qL m W zs, -1125899906842624 ≤ x ∧ x ≤ 1125899906842624 := by
    intro x hx
    obtain ⟨z, hz1, rfl⟩ := List.mem_map.1 hx
    have h0 := hnn z hz1
    have h1 := hle z hz1
    have h2 := Int.mul_le_mul_of_nonneg_left h1 (show (0 : Int) ≤ (m : Int) by omega)
    have h3 := Int.ediv_nonneg (Int.mul_nonneg (show (0 : Int) ≤ (m : Int) by omega) h0) (show (0 : Int) ≤ (W : Int) by omega)
    have h4 : (m : Int) * z / (W : Int) ≤ (m : Int) := Int.ediv_le_of_le_mul (by omega) h2
    omega
  have hpp := parts_ok2 (M := m) (W := W) (by omega) hzl (by omega) hs HUW.out hC hln hl
  have HG := Lib.hid (fun A B c c' W1 h1 h2 => give_any A B n c c' l (qL m W zs) (rL m W zs) C (rkAt m W zs) W1 h1 h2 (by unfold qL; rw [List.length_map]; exact hzl) (by unfold rL; rw [List.length_map]; exact hzl) (by omega) hqb (fun i hi => by unfold rL; exact rkAt_of _ _ zs i (by omega)) (fun i hi => by unfold rkAt; exact Int.emod_nonneg _ (by omega)) hC hln)
  have HV := Lib.hid (fun W1 => refValid_any (-(m : Int)) W1)
  rw [show okA (-(m : Int)) = true from okA_iff.2 (by omega)] at HV
  have HA := Lib.hid hA; have HOK := Lib.hid hok; have HZL := Lib.hid hzl; have HS := Lib.hid hs; have HNN := Lib.hid hnn; have HL := Lib.hid hl; have HPP := Lib.hid hpp.2
  have hql : (addL (qL m W zs) ((nats C).take l)).length = n := by rw [addL_length]; unfold qL; rw [List.length_map, hzl]
  obtain ⟨P, hP⟩ : ∃ P, addL (qL m W zs) ((nats C).take l) = P := ⟨_, rfl⟩
  have HPE := Lib.hid hP
  rw [hP] at hql HPP HG
  have HPL := Lib.hid hql
  have hni : (n : Int) ≤ 64 := by omega
  have hmi : (m : Int) ≤ 1125899906842624 := by omega
  clear hA hok hs hnn hle hqb hpp hzl hub hC hl hP hql hn
  go_enter Tryd.func7, Tryd.ntmps7
  go_wp2_with (go_at_call 9; refine (HV.out _).mono ?_; rintro e w3 ⟨rfl, rfl⟩)
  go_loopw [6, 7] (fun sv iv wr => ∃ k : Nat, k ≤ n ∧ iv = .int .i64 k ∧ sv = .int .i64 (zs.take k).sum ∧ wr = w) (fun _ iv _ => n - (intOf iv).toNat)
  case atStart => exact ⟨0, by omega, rfl, by simp, rfl⟩
  case round =>
    obtain ⟨k, hk, rfl, rfl, hww⟩ := hrel
    have hww2 := hww.symm
    subst hww2
    clear hww
    have ht0 := sum_ge_of (l := zs.take k) (fun x hx => HNN.out x (List.mem_of_mem_take hx))
    have ht1 := take_sum_le HNN.out k
    rw [HS.out] at ht1
    by_cases hlt : k < n
    · obtain ⟨b, off, rfl, hbl, hc0⟩ := HA.out.2.2 k hlt
      have hlt' : (k : Int) < (n : Int) := by omega
      have hzk : k < zs.length := by rw [HZL.out]; exact hlt
      have hts := take_step zs k hzk
      have hzo := okU_iff.1 (show okU (zs[k]?.getD 0) = true by rw [List.getElem?_eq_getElem hzk]; exact List.all_eq_true.1 HOK.out _ (List.getElem_mem hzk))
      obtain ⟨z, hz⟩ : ∃ z, zs[k]?.getD 0 = z := ⟨_, rfl⟩
      rw [hz] at hc0 hts hzo
      obtain ⟨S, hS⟩ : ∃ S, (zs.take k).sum = S := ⟨_, rfl⟩
      have HTS : Hid ((zs.take (k + 1)).sum = S + z) := Lib.hid (by rw [hts, List.sum_append, hS]; simp)
      rw [hS] at ht0 ht1 ⊢
      have zn : ¬ z < 0 := by omega
      have zm : ¬ (1099511627776 < z) := by omega
      clear hts hz hS hzk
      go_wp2
      go_roundw
      case rel => exact ⟨k + 1, by omega, by go_num, by rw [HTS.out], by first | trivial | rfl⟩
      case measure => simp [intOf]; omega
    · obtain rfl : k = n := by omega
      have htk : zs.take k = zs := List.take_of_length_le (by rw [HZL.out]; omega)
      rw [htk, HS.out]
      have hw0 : ¬ (W : Int) = 0 := by omega
      have hwb : ((W : Int) == 0) = false := by simp; omega
      have hsg : -(m : Int) < 0 := by omega
      have hm0 : decide (0 < m) = true := decide_eq_true hm1
      clear ht0 ht1 htk
      go_upto_region 18 with fail
      have hb0 : Below w.heap.size w ((w.alloc (.cells #[] 3)).alloc (.cells #[] 3)) := ((Below.refl _ _).alloc (Nat.le_refl _) _).alloc (by simp) _
      have ho5 : ((w.alloc (.cells #[] 3)).alloc (.cells #[] 3)).ownsRow w.heap.size 3 1 (.slice (some ⟨w.heap.size, 0, none⟩) 0 0) 0 [] := World.ownsRow.alloc (own_lit w 3) _
      have ho6 : ((w.alloc (.cells #[] 3)).alloc (.cells #[] 3)).ownsRow w.heap.size 3 1 (.slice (some ⟨w.heap.size + 1, 0, none⟩) 0 0) 0 [] :=
        ⟨rfl, .inr ⟨w.heap.size + 1, 0, #[], rfl, by omega, by have := heap_alloc_new (w.alloc (.cells #[] 3)) (.cells #[] 3); simpa using this, by omega, by decide, rfl, rfl⟩⟩
      clear hw0 hwb hsg
      go_wp2_with fail
      go_loopw [9, 10, 11, 12] (fun v5 v6 hv iv wr => ∃ (j g5 c5 g6 c6 : Nat), j ≤ k ∧ iv = .int .i64 j ∧ hv = .int .i64 (qL m W (zs.take j)).sum ∧ v5 = .slice (some ⟨g5, 0, none⟩) j c5 ∧ v6 = .slice (some ⟨g6, 0, none⟩) j c6 ∧
          g5 ≠ g6 ∧ Hid (wr.ownsRow w.heap.size 3 1 (.slice (some ⟨g5, 0, none⟩) j c5) j ((qL m W (zs.take j)).map (Value.int .i64))) ∧ Hid (wr.ownsRow w.heap.size 3 1 (.slice (some ⟨g6, 0, none⟩) j c6) j ((rL m W (zs.take j)).map (Value.int .i64))) ∧ Below w.heap.size w wr) (fun _ _ _ iv _ => k - (intOf iv).toNat)
      case atStart => exact ⟨0, w.heap.size, 0, w.heap.size + 1, 0, by omega, rfl, by simp [qL], rfl, rfl, by omega, Lib.hid (by simpa [qL] using ho5), Lib.hid (by simpa [rL] using ho6), hb0⟩
      case round =>
        clear hb0 ho5 ho6
        obtain ⟨j, g5, c5, g6, c6, hj, rfl, rfl, rfl, rfl, hne, HO5, HO6, hb⟩ := hrel
        have hsz := hb.size
        have hps := part_sum_le (M := m) (W := W) (ws := zs) (by omega) (by omega) HS.out HNN.out j
        by_cases hlj : j < k
        · obtain ⟨b, off, rfl, hbl, hc0⟩ := HA.out.2.2 j hlj
          have hc : wr.cell? ⟨b, off + j, none⟩ = some (.int .i64 (zs[j]?.getD 0)) := (hb.cell (p := ⟨b, off + j, none⟩) hbl).trans hc0
          have hzk : j < zs.length := by rw [HZL.out]; exact hlj
          have hts := take_step zs j hzk
          have hzo := okU_iff.1 (show okU (zs[j]?.getD 0) = true by rw [List.getElem?_eq_getElem hzk]; exact List.all_eq_true.1 HOK.out _ (List.getElem_mem hzk))
          have hzw := HUW.out (zs[j]?.getD 0) (by rw [List.getElem?_eq_getElem hzk]; exact List.getElem_mem _)
          have hps1 := part_sum_le (M := m) (W := W) (ws := zs) (by omega) (by omega) HS.out HNN.out (j + 1)
          obtain ⟨z, hz⟩ : ∃ z : Nat, zs[j]?.getD 0 = (z : Int) := ⟨(zs[j]?.getD 0).toNat, by omega⟩
          rw [hz] at hc hts hzo hzw
          obtain ⟨s1, s2, s3⟩ := share_nat hm2 (show z ≤ W by omega) hW hW2
          have HD0 := Lib.hid (fun wx => refDivide m z W (by omega) (by omega) hW hW2 wx)
          rw [show capped (m * z / W) = m * z / W from by unfold capped; omega] at HD0
          have hT5 : qL m W (zs.take (j + 1)) = qL m W (zs.take j) ++ [((m * z / W : Nat) : Int)] := by unfold qL; rw [hts, List.map_append]; simp
          have hT6 : rL m W (zs.take (j + 1)) = rL m W (zs.take j) ++ [((m * z % W : Nat) : Int)] := by unfold rL; rw [hts, List.map_append]; simp
          obtain ⟨Q, hQ⟩ : ∃ Q, m * z / W = Q := ⟨_, rfl⟩
          obtain ⟨R, hR⟩ : ∃ R, m * z % W = R := ⟨_, rfl⟩
          rw [hQ] at hT5 s2
          rw [hR] at hT6 s3
          rw [hQ, hR] at HD0
          rw [hT5, List.sum_append] at hps1
          obtain ⟨T, hT⟩ : ∃ T, (qL m W (zs.take j)).sum = T := ⟨_, rfl⟩
          rw [hT] at hps hps1 ⊢
          have HTT : Hid ((qL m W (zs.take (j + 1))).sum = T + Q) := Lib.hid (by rw [hT5, List.sum_append, hT]; simp)
          have HT5 := Lib.hid hT5; have HT6 := Lib.hid hT6
          have hlj' : (j : Int) < (k : Int) := by omega
          have hQm : (Q : Int) ≤ (m : Int) := by omega
          have hRm : (R : Int) < (W : Int) := by omega
          have hTQ : T + (Q : Int) ≤ (m : Int) := by have := hps1.2; simp at this; omega
          clear hc0 hts hz hQ hR hT hT5 hT6 hzk hps1 s1
          go_wp2_with (first
            | (go_at_call 10; refine (HD0.out _).mono ?_; rintro e w3 ⟨rfl, q3, hq3⟩; have HO5 := Lib.hid (dr_own hq3 HO5.out); have HO6 := Lib.hid (dr_own hq3 HO6.out); have hc3 := dr_cell hq3 hc; have HB3 := Lib.hid (dr_below hq3 hb); have HS3 := Lib.hid (dr_size hq3); clear hq3)
            | (at_builtin; refine wpList_append_lies _ rfl (.tmp 70) (.tmp 72) 22 rfl w.heap.size 3 i0 (.int .i64 0) 1 8 Tryd.underlying22 hi0 hz0 hz1 hz2 rfl (by decide) _ _ _ rfl (World.ownsRow.alloc HO5.out _) ⟨w3.heap.size, 0, none⟩ 1 1 [.int .i64 Q] rfl rfl (cell_one _ _ _) (by intro u hu; simp at hu; subst hu; rfl) (by omega) (by unfold maxLen; omega) (by omega) (by have := HB3.out.size; simp; omega) (w3.heap.size + 1) (by simp) ?_; intro q5 d5 w5 hown5 hg5 hq5 hl5; have HQ5 := Lib.hid hown5; have HO65 := Lib.hid (own_grown (World.ownsRow.alloc HO6.out (.cells #[.int .i64 Q] 3)) hg5 (by intro h; injection h with h; exact hne h.symm)); have HB5 := Lib.hid (belowB5 HB3.out hg5 (own_lt HO5.out).1); clear hg5 hown5)
            | (at_builtin; refine wpList_append_lies _ rfl (.tmp 74) (.tmp 76) 22 rfl w.heap.size 3 i0 (.int .i64 0) 1 8 Tryd.underlying22 hi0 hz0 hz1 hz2 rfl (by decide) _ _ _ rfl (World.ownsRow.alloc HO65.out _) ⟨w5.heap.size, 0, none⟩ 1 1 [.int .i64 R] rfl rfl (cell_one _ _ _) (by intro u hu; simp at hu; subst hu; rfl) (by omega) (by unfold maxLen; omega) (by omega) (by simp; have := HB5.out.size; omega) (w5.heap.size + 1) (by simp) ?_; intro q6 d6 w6 hown6 hg6 hq6 hl6))
          have hg6l := (own_lt HO6.out).2
          have e5 : q5 = g5 ∨ q5 = w3.heap.size + 1 := by
            rcases hq5 with h | h
            · exact .inl (by injection h with h; exact h.symm)
            · exact .inr h
          have e6 : q6 = g6 ∨ q6 = w5.heap.size + 1 := by
            rcases hq6 with h | h
            · exact .inl (by injection h with h; exact h.symm)
            · exact .inr h
          have hq56 : q5 ≠ g6 := by omega
          have HN5 := Lib.hid (own_grown (World.ownsRow.alloc HQ5.out (.cells #[.int .i64 R] 3)) hg6 (by intro h; injection h with h; exact hq56 h))
          have HN6 := Lib.hid hown6
          have HB6 := Lib.hid (belowB5 HB5.out hg6 (own_lt HO6.out).1)
          have hqq : q5 ≠ q6 := by omega
          clear hg6 hown6 hq5 hq6 e5 e6
          go_roundw
          case rel => exact ⟨j + 1, q5, d5, q6, d6, by omega, by go_num, by rw [HTT.out], rfl, rfl, hqq, Lib.hid (by rw [HT5.out]; simpa using HN5.out), Lib.hid (by rw [HT6.out]; simpa using HN6.out), HB6.out⟩
          case measure => simp [intOf]; omega
        · obtain rfl : j = k := by omega
          have htk : zs.take j = zs := List.take_of_length_le (by rw [HZL.out]; omega)
          rw [htk] at HO5 HO6 hps ⊢
          have hll := HL.out
          obtain ⟨T, hT⟩ : ∃ T, (qL m W zs).sum = T := ⟨_, rfl⟩
          rw [hT] at hll hps ⊢
          have hmt : (m : Int) - T = (l : Int) := by omega
          have hll2 : (l : Int) ≤ 64 := by omega
          have HE := Lib.hid (HG.out (some ⟨g5, 0, none⟩) (some ⟨g6, 0, none⟩) c5 c6 wr (has_own HO5.out (by unfold qL; rw [List.length_map]; exact HZL.out)) (has_own HO6.out (by unfold rL; rw [List.length_map]; exact HZL.out)))
          have HBB := Lib.hid hb
          clear hT htk hb hll HO5 HO6 HG hne
          go_wp2_with (go_at_call 20; (with_reducible refine HE.out.mono ?_); rintro e w4 ⟨v, rfl, hv, hb4⟩; obtain ⟨g, d, rfl, hgb, hgl⟩ := own_slice hv hn0; have HVV := Lib.hid hv; have HB4 := Lib.hid (HBB.out.trans (hb4.mono HBB.out.size)); have HGB := Lib.hid (Nat.le_trans HBB.out.size hgb); clear hv hb4 hgb)
          go_loopw [15] (fun iv wr3 => ∃ t : Nat, t ≤ j ∧ iv = .int .i64 t ∧ Hid (wr3.ownsRow w.heap.size 3 1 (.slice (some ⟨g, 0, none⟩) j d) j ((negL P t).map (Value.int .i64))) ∧ Below w.heap.size w wr3) (fun iv _ => j - (intOf iv).toNat)
          case atStart => exact ⟨0, by omega, rfl, Lib.hid (own_base (by rw [negL_zero]; exact HVV.out) HBB.out.size), HB4.out⟩
          case round =>
            obtain ⟨t, ht, rfl, HO, hb5⟩ := hrel
            by_cases hltt : t < j
            · obtain ⟨y, hy, y0, y1, _⟩ := HPP.out t hltt
              have hset := negL_set (P := P) (k := t) (by rw [HPL.out]; exact hltt)
              have hat := negL_at (P := P) (k := t) (by rw [HPL.out]; exact hltt)
              rw [hy] at hset hat
              have hnl : (negL P t).length = j := by rw [negL_length, HPL.out]
              obtain ⟨p1, p2⟩ := hi_of_own HO.out hnl t (by omega)
              rw [hat] at p1
              have RO := Lib.hid (show (wr.setCell ⟨g, t, none⟩ (.int .i64 (-y))).ownsRow w.heap.size 3 1 (.slice (some ⟨g, 0, none⟩) j d) j ((negL P (t + 1)).map (Value.int .i64)) from by
                have := (World.ownsRow.stored HO.out t (.int .i64 (-y))).1
                rw [← hset, List.map_set]
                exact this)
              have RB := Lib.hid (hb5.setCell (p := ⟨g, t, none⟩) HGB.out (.int .i64 (-y)))
              have hltt' : (t : Int) < (j : Int) := by omega
              clear hset hat hnl hy hb5 HO
              go_wp2_with fail
              go_roundw
              case rel => exact ⟨t + 1, by omega, by go_num, RO, RB.out⟩
              case measure => simp [intOf]; omega
            · obtain rfl : t = j := by omega
              go_wp2_with fail
              go_ret2
              exact ⟨g, d, rfl, by rw [HPE.out, ← negL_all HPL.out]; exact HO.out, hb5⟩

end Go.Proofs.YtopngdjhnljmfaaDoor
