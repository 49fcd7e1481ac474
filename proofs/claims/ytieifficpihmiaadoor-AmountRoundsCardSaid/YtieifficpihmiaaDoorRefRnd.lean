/- Walk: the reference converts amounts to whole units. -/
import Derived.Test.YtieifficpihmiaaDoorGive
import Derived.Deep.AppendLies
namespace Go.Proofs.YtieifficpihmiaaDoor
open Go.RowKit St

theorem own_grown {w w' : World} {base e size n c g : Nat} {xs : List Value} {row : Option Nat} (h : w.ownsRow base e size (.slice (some ⟨g, 0, none⟩) n c) n xs) (hg : w.grownBy w' row) (hne : some g ≠ row) : w'.ownsRow base e size (.slice (some ⟨g, 0, none⟩) n c) n xs := by
  refine ⟨h.1, ?_⟩
  rcases h.2 with h | ⟨g1, cap, cur, e1, hb, hh, r⟩
  · exact .inl h
  · cases e1
    have hl : g < w.heap.size := by
      rcases Nat.lt_or_ge g w.heap.size with h | h
      · exact h
      · rw [Array.getElem?_eq_none h] at hh; cases hh
    exact .inr ⟨_, _, cur, rfl, hb, (hg.block g hl hne).trans hh, r⟩
theorem cell_one (w : World) (x : Int) (e : TypeId) : ∀ (j : Nat) (u : Value), [Value.int .i64 x][j]? = some u → (w.alloc (.cells #[.int .i64 x] e)).cell? ((⟨w.heap.size, 0, none⟩ : Addr).add j) = some u := by
  intro j u hu
  have ha : ((⟨w.heap.size, 0, none⟩ : Addr).add j) = ⟨w.heap.size, j, none⟩ := by unfold Addr.add; split <;> simp_all
  rw [ha, cell_of_row _ _ _ _ _ (0, 0) (heap_alloc_new _ _)]
  simpa using hu
theorem rem_is (a : Int) (ha : -1125899906842624 ≤ a ∧ a ≤ 1125899906842624) : (a.tmod 10000 + 10000).tmod 10000 = a % 10000 ∧ (a.tmod 10000 + 10000) % 10000 = a % 10000 ∧ (a - a % 10000).tdiv 10000 = a / 10000 ∧ -10000 < a.tmod 10000 ∧ a.tmod 10000 < 10000 := by
  obtain ⟨q1, q2, q3⟩ := tq a
  have h2 : -10000 < a.tmod 10000 ∧ a.tmod 10000 < 10000 := by omega
  have h3 : (a.tmod 10000 + 10000) % 10000 = a % 10000 := by omega
  refine ⟨?_, h3, ?_, h2.1, h2.2⟩
  · rw [Int.tmod_eq_emod_of_nonneg (by omega)]; exact h3
  · obtain ⟨p1, p2, p3⟩ := tq (a - a % 10000)
    omega
theorem has_own {w : World} {base : Nat} {e : TypeId} {g n c : Nat} {zs : List Int} (h : w.ownsRow base e 1 (.slice (some ⟨g, 0, none⟩) n c) n (zs.map (Value.int .i64))) (hl : zs.length = n) : Has w (some ⟨g, 0, none⟩) n c (zs.map (Value.int .i64)) := by
  refine ⟨by rw [List.length_map]; exact hl, fun u hu => by obtain ⟨z, _, rfl⟩ := List.mem_map.1 hu; rfl, .inr ⟨_, rfl, fun j u hj => ?_⟩⟩
  have hjn : j < n := by
    rcases Nat.lt_or_ge j n with h | h
    · exact h
    · rw [List.getElem?_eq_none (by rw [List.length_map]; omega)] at hj; cases hj
  refine ⟨(own_lt h).2, ?_⟩
  rw [add_none, Nat.zero_add, World.ownsRow.cellAt h j (by omega)]
  exact hj
theorem rnd_bound (S : Int) (h : -9223372036854775808 ≤ S ∧ S ≤ 9223372036854775807) : -922337203685478 ≤ rndV S ∧ rndV S ≤ 922337203685478 := by
  obtain ⟨q1, q2, q3⟩ := tq S
  unfold rndV
  split
  · omega
  · split <;> omega
theorem own_base {w : World} {b b' : Nat} {e : TypeId} {size : Nat} {v : Value} {n : Nat} {xs : List Value} (h : w.ownsRow b e size v n xs) (hb : b' ≤ b) : w.ownsRow b' e size v n xs := by
  refine ⟨h.1, ?_⟩
  rcases h.2 with h | ⟨g, cap, cur, e1, hg, r⟩
  · exact .inl h
  · exact .inr ⟨g, cap, cur, e1, Nat.le_trans hb hg, r⟩
theorem cellB5 {w0 w w' : World} {b o g : Nat} {t : TypeId} {cs : Array Value} {v : Value} (hg : (w.alloc (.cells cs t)).grownBy w' (some g)) (hc : w.cell? ⟨b, o, none⟩ = some v) (hb : b < w.heap.size) (hgb : w0.heap.size ≤ g) (hb0 : b < w0.heap.size) : w'.cell? ⟨b, o, none⟩ = some v := by
  rw [World.cell?_of_block (hg.block b (by simp; omega) (by intro h; injection h with h; omega))]
  exact (((Below.refl _ w).alloc (Nat.le_refl _) (.cells cs t)).cell (p := ⟨b, o, none⟩) hb).trans hc
theorem belowB5 {w0 w w' : World} {g : Nat} {t : TypeId} {cs : Array Value} (hb : Below w0.heap.size w0 w) (hg : (w.alloc (.cells cs t)).grownBy w' (some g)) (hgb : w0.heap.size ≤ g) : Below w0.heap.size w0 w' :=
  below_of_grown (hb.alloc hb.size _) hg hgb (by have := hb.size; simp; omega)
set_option maxRecDepth 100000 in
set_option maxHeartbeats 8000000 in
theorem refRound_any (A : Option Addr) (n c m : Nat) (zs C : List Int) (w : World) (hA : Ints w A n zs) (hn : n ≤ 4096) (hok : zs.all okA = true) (hC : SP (restAt zs) 0 n C) (hmn : m ≤ n) (hm : (m : Int) = rndV zs.sum - (zs.map (· / 10000)).sum) :
    Calls Tryd.prog 11 #[.slice A n c] w fun e w' => ∃ v, e = .returned v ∧ w'.ownsRow w.heap.size 3 1 v n ((addL (zs.map (· / 10000)) ((nats C).take m)).map (Value.int .i64)) ∧ Below w.heap.size w w' := by
  obtain ⟨i0, hi0, hz0, hz1, hz2⟩ := info_parts intInfo
  have hzl : zs.length = n := hA.1
  have HA := Lib.hid hA; have HOK := Lib.hid hok; have HZL := Lib.hid hzl
  have HSB := Lib.hid (sum_bound hok)
  have HFB := Lib.hid (floor_sum hok)
  have d1 : decide (4096 < (n : Int)) = false := decide_eq_false (by omega)
  have HR := Lib.hid (refRounded_any zs.sum (by have := sum_bound hok; rw [hzl] at this; omega))
  have HG := Lib.hid (fun A B c c' W h1 h2 => give_any A B n c c' m (zs.map (· / 10000)) (zs.map (· % 10000)) C (restAt zs) W h1 h2 (by rw [List.length_map]; exact hzl) (by rw [List.length_map]; exact hzl) hn (fun x hx => by
      obtain ⟨z, hz1, rfl⟩ := List.mem_map.1 hx
      have := okA_iff.1 (List.all_eq_true.1 hok z hz1)
      omega) (fun i hi => restAt_of zs i (by omega)) (fun i _ => by unfold restAt; omega) hC hmn)
  have HM := Lib.hid hm
  clear hA hok hC hm hzl
  go_enter Tryd.func11, Tryd.ntmps11
  go_wp2_with fail
  have hb0 : Below w.heap.size w ((w.alloc (.cells #[] 3)).alloc (.cells #[] 3)) := ((Below.refl _ _).alloc (Nat.le_refl _) _).alloc (by simp) _
  have ho5 : ((w.alloc (.cells #[] 3)).alloc (.cells #[] 3)).ownsRow w.heap.size 3 1 (.slice (some ⟨w.heap.size, 0, none⟩) 0 0) 0 [] := World.ownsRow.alloc (own_lit w 3) _
  have ho6 : ((w.alloc (.cells #[] 3)).alloc (.cells #[] 3)).ownsRow w.heap.size 3 1 (.slice (some ⟨w.heap.size + 1, 0, none⟩) 0 0) 0 [] :=
    ⟨rfl, .inr ⟨w.heap.size + 1, 0, #[], rfl, by omega, by have := heap_alloc_new (w.alloc (.cells #[] 3)) (.cells #[] 3); simpa using this, by omega, by decide, rfl, rfl⟩⟩
  go_loopw [3, 4, 5, 6, 7] (fun sv hv v5 v6 iv wr => ∃ (k g5 c5 g6 c6 : Nat), k ≤ n ∧ iv = .int .i64 k ∧ sv = .int .i64 (zs.take k).sum ∧ hv = .int .i64 ((zs.take k).map (· / 10000)).sum ∧ v5 = .slice (some ⟨g5, 0, none⟩) k c5 ∧ v6 = .slice (some ⟨g6, 0, none⟩) k c6 ∧
      g5 ≠ g6 ∧ Hid (wr.ownsRow w.heap.size 3 1 (.slice (some ⟨g5, 0, none⟩) k c5) k (((zs.take k).map (· / 10000)).map (Value.int .i64))) ∧ Hid (wr.ownsRow w.heap.size 3 1 (.slice (some ⟨g6, 0, none⟩) k c6) k (((zs.take k).map (· % 10000)).map (Value.int .i64))) ∧ Below w.heap.size w wr) (fun _ _ _ _ iv _ => n - (intOf iv).toNat)
  case atStart => exact ⟨0, w.heap.size, 0, w.heap.size + 1, 0, by omega, rfl, by simp, by simp, rfl, rfl, by omega, Lib.hid (by simpa using ho5), Lib.hid (by simpa using ho6), hb0⟩
  case round =>
    clear hb0 ho5 ho6 d1
    obtain ⟨k, g5, c5, g6, c6, hk, rfl, rfl, rfl, rfl, rfl, hne, HO5, HO6, hb⟩ := hrel
    have hs := hb.size
    by_cases hlt : k < n
    · obtain ⟨b, off, rfl, hbl, hc0⟩ := HA.out.2.2 k hlt
      have hc : wr.cell? ⟨b, off + k, none⟩ = some (.int .i64 (zs[k]?.getD 0)) := (hb.cell (p := ⟨b, off + k, none⟩) hbl).trans hc0
      have hts := take_step zs k (by rw [HZL.out]; omega)
      have hokz : okA (zs[k]?.getD 0) = true := by
        have hl : k < zs.length := by rw [HZL.out]; exact hlt
        rw [List.getElem?_eq_getElem hl]
        exact List.all_eq_true.1 HOK.out _ (List.getElem_mem hl)
      have hta : (zs.take k).all okA = true := by
        rw [List.all_eq_true]; intro x hx; exact List.all_eq_true.1 HOK.out x (List.mem_of_mem_take hx)
      have hss := sum_bound hta
      have hfs := floor_sum hta
      rw [show (zs.take k).length = k by rw [List.length_take, HZL.out]; omega] at hfs hss
      obtain ⟨z, hz⟩ : ∃ z, zs[k]?.getD 0 = z := ⟨_, rfl⟩
      rw [hz] at hc hts hokz
      have hzb := okA_iff.1 hokz
      obtain ⟨r1, r2, r3, r4, r5⟩ := rem_is z hzb
      obtain ⟨R, hR⟩ : ∃ R, z % 10000 = R := ⟨_, rfl⟩
      obtain ⟨Q, hQ⟩ : ∃ Q, z / 10000 = Q := ⟨_, rfl⟩
      have hRb : 0 ≤ R ∧ R < 10000 := by omega
      have hQb : -112589990685 ≤ Q ∧ Q ≤ 112589990685 := by omega
      rw [hR] at r1 r2 r3
      rw [hQ] at r3
      have HT5 : Hid ((zs.take (k + 1)).map (· / 10000) = (zs.take k).map (· / 10000) ++ [Q]) := Lib.hid (by rw [hts, List.map_append, ← hQ]; rfl)
      have HT6 : Hid ((zs.take (k + 1)).map (· % 10000) = (zs.take k).map (· % 10000) ++ [R]) := Lib.hid (by rw [hts, List.map_append, ← hR]; rfl)
      have HTS : Hid ((zs.take (k + 1)).sum = (zs.take k).sum + z) := Lib.hid (by rw [hts, List.sum_append]; simp)
      obtain ⟨S, hS⟩ : ∃ S, (zs.take k).sum = S := ⟨_, rfl⟩
      obtain ⟨T, hT⟩ : ∃ T, ((zs.take k).map (· / 10000)).sum = T := ⟨_, rfl⟩
      have HTT : Hid (((zs.take (k + 1)).map (· / 10000)).sum = T + Q) := Lib.hid (by rw [HT5.out, List.sum_append, hT]; simp)
      have HV := Lib.hid (fun W => refValid_any z W)
      rw [hokz] at HV
      rw [hS] at hss HTS ⊢
      rw [hT] at hfs ⊢
      have hlt' : (k : Int) < (n : Int) := by omega
      clear hc0 hts hokz hta hz hR hQ hS hT
      go_wp2_with (first
        | (go_at_call 14; (with_reducible refine (HV.out _).mono ?_); rintro e w3 ⟨rfl, rfl⟩)
        | (at_builtin; refine wpList_append_lies _ rfl (.tmp 41) (.tmp 43) 22 rfl w.heap.size 3 i0 (.int .i64 0) 1 8 Tryd.underlying22 hi0 hz0 hz1 hz2 rfl (by decide) _ _ _ rfl (World.ownsRow.alloc HO5.out _) ⟨wr.heap.size, 0, none⟩ 1 1 [.int .i64 Q] rfl rfl (cell_one _ _ _) (by intro u hu; simp at hu; subst hu; rfl) (by omega) (by unfold maxLen; omega) (by omega) (by simp; omega) (wr.heap.size + 1) (by simp) ?_; intro q5 d5 w5 hown5 hg5 hq5 hl5; have hc5 : w5.cell? ⟨b, off + k, none⟩ = some (.int .i64 z) := cellB5 hg5 hc (Nat.lt_of_lt_of_le hbl hs) (own_lt HO5.out).1 hbl; have HQ5 := Lib.hid hown5; have HO65 := Lib.hid (own_grown (World.ownsRow.alloc HO6.out (.cells #[.int .i64 Q] 3)) hg5 (by intro h; injection h with h; exact hne h.symm)); have HB5 := Lib.hid (belowB5 hb hg5 (own_lt HO5.out).1); clear hg5 hown5)
        | (at_builtin; refine wpList_append_lies _ rfl (.tmp 45) (.tmp 47) 22 rfl w.heap.size 3 i0 (.int .i64 0) 1 8 Tryd.underlying22 hi0 hz0 hz1 hz2 rfl (by decide) _ _ _ rfl (World.ownsRow.alloc HO65.out _) ⟨w5.heap.size, 0, none⟩ 1 1 [.int .i64 R] rfl rfl (cell_one _ _ _) (by intro u hu; simp at hu; subst hu; rfl) (by omega) (by unfold maxLen; omega) (by omega) (by simp; have := HB5.out.size; omega) (w5.heap.size + 1) (by simp) ?_; intro q6 d6 w6 hown6 hg6 hq6 hl6; have hc6 : w6.cell? ⟨b, off + k, none⟩ = some (.int .i64 z) := cellB5 hg6 hc5 (Nat.lt_of_lt_of_le hbl HB5.out.size) (own_lt HO65.out).1 hbl))
      have hg6l := (own_lt HO6.out).2
      have e5 : q5 = g5 ∨ q5 = wr.heap.size + 1 := by
        rcases hq5 with h | h
        · exact .inl (by injection h with h; exact h.symm)
        · exact .inr h
      have e6 : q6 = g6 ∨ q6 = w5.heap.size + 1 := by
        rcases hq6 with h | h
        · exact .inl (by injection h with h; exact h.symm)
        · exact .inr h
      have hq56 : q5 ≠ g6 := by omega
      have HN5 := Lib.hid (own_grown (World.ownsRow.alloc HQ5.out (.cells #[.int .i64 R] 3)) hg6 (by intro h; injection h with h; exact hq56 h))
      have HN6 := Lib.hid hown6
      have HB6 := Lib.hid (belowB5 HB5.out hg6 (own_lt HO6.out).1)
      have hqq : q5 ≠ q6 := by omega
      clear hg6 hown6 hq5 hq6 e5 e6
      go_roundw
      case rel => exact ⟨k + 1, q5, d5, q6, d6, by omega, by go_num, by rw [HTS.out], by rw [HTT.out], rfl, rfl, hqq, Lib.hid (by rw [HT5.out]; simpa using HN5.out), Lib.hid (by rw [HT6.out]; simpa using HN6.out), HB6.out⟩
      case measure => simp [intOf]; omega
    · obtain rfl : k = n := by omega
      have htk : zs.take k = zs := List.take_of_length_le (by rw [HZL.out]; omega)
      rw [htk] at HO5 HO6 ⊢
      obtain ⟨S, hS⟩ : ∃ S, zs.sum = S := ⟨_, rfl⟩
      obtain ⟨T, hT⟩ : ∃ T, (zs.map (· / 10000)).sum = T := ⟨_, rfl⟩
      have hsb := HSB.out
      have hfb := HFB.out
      have hmm := HM.out
      rw [hS] at HR hmm hsb
      rw [hT] at hmm hfb
      rw [HZL.out] at hsb hfb
      rw [hS, hT]
      have hrb := rnd_bound S (by omega)
      obtain ⟨R, hRe⟩ : ∃ R, rndV S = R := ⟨_, rfl⟩
      rw [hRe] at HR hmm hrb
      have hmm2 : R - T = (m : Int) := hmm.symm
      have HE := Lib.hid (HG.out (some ⟨g5, 0, none⟩) (some ⟨g6, 0, none⟩) c5 c6 wr (has_own HO5.out (by rw [List.length_map]; exact HZL.out)) (has_own HO6.out (by rw [List.length_map]; exact HZL.out)))
      have HBB := Lib.hid hb
      clear hS hT hRe hmm hsb htk hb HSB HFB
      go_wp2_with (first
        | (go_at_call 8; (with_reducible refine (HR.out _).mono ?_); rintro e w3 ⟨rfl, rfl⟩)
        | (go_at_call 22; (with_reducible refine HE.out.mono ?_); rintro e w4 ⟨v, rfl, hv, hb4⟩; have HV := Lib.hid hv; have HB4 := Lib.hid hb4; clear hv hb4))
      go_ret
      exact ⟨v, rfl, own_base HV.out HBB.out.size, HBB.out.trans (HB4.out.mono HBB.out.size)⟩
end Go.Proofs.YtieifficpihmiaaDoor
