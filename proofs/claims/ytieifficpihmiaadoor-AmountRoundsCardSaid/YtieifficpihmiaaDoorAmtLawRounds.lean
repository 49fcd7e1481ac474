/- Walk: the law on whole units. -/
import Derived.Test.YtieifficpihmiaaDoorRefRnd
import Derived.Test.YtieifficpihmiaaDoorAmtAwake
namespace Go.Proofs.YtieifficpihmiaaDoor
open Go.RowKit St

/-- An operation whose guard says yes goes as one without. -/
theorem wpList_guard {P : Program} {ops : Array Oper} {Q : Exit → Act → World → Prop} {a : Act} {w : World} {rest : List Oper} {o : Oper} (hw : Region.wanted o (yielded ops a.tmps) = true)
    (h : wpList P ops Q ({ o with guard := none } :: rest) a w) : wpList P ops Q (o :: rest) a w := by
  unfold wpList at h ⊢
  rw [if_pos hw]
  rw [if_pos (show Region.wanted { o with guard := none } (yielded ops a.tmps) = true from rfl)] at h
  cases o
  exact h
theorem ints_row2 {w : World} {a : Option Addr} {len cap : Nat} {zs : List Int} (h : IsRow .i64 w a len cap zs) : Ints w a len (zs.take len) := by
  rcases h with ⟨rfl, rfl, rfl, rfl⟩ | ⟨x, rfl, hl, hm, hz, hc, hw⟩
  · exact ⟨rfl, by simp, fun k hk => absurd hk (by omega)⟩
  · refine ⟨by rw [List.length_take]; omega, fun z hz' => i64_bounds (hw z (List.mem_of_mem_take hz')), fun k hk => ?_⟩
    obtain ⟨b, off, rfl, hb, hc'⟩ := row_cells hc (by omega)
    refine ⟨b, off, rfl, hb, ?_⟩
    have e : (zs.take len)[k]?.getD 0 = zs.getD k 0 := by rw [List.getElem?_take_of_lt hk]; simp [List.getD]
    rw [e]
    exact hc' k (by omega)
theorem ints_own2 {w : World} {base e : Nat} {v : Value} {n : Nat} {zs : List Int} (hz : ∀ z ∈ zs, -9223372036854775808 ≤ z ∧ z ≤ 9223372036854775807) (hl : zs.length = n)
    (h : w.ownsRow base e 1 v n (zs.map (Value.int .i64))) : ∃ A c, v = .slice A n c ∧ Ints w A n zs := by
  obtain ⟨A, c, rfl, _, hc⟩ := own_form h
  refine ⟨A, c, rfl, hl, hz, fun k hk => ?_⟩
  obtain ⟨g, rfl, _, hg, hcell⟩ := hc (by omega)
  refine ⟨g, 0, rfl, hg, ?_⟩
  rw [Nat.zero_add, hcell k hk, List.getElem?_map, List.getElem?_eq_getElem (by omega)]
  rfl
set_option maxHeartbeats 2000000 in
theorem same_ints (A B : Option Addr) (n c c' : Nat) (l : List Int) (w : World) (hA : ∀ k, k < n → ∃ b off, A = some ⟨b, off, none⟩ ∧ w.cell? ⟨b, off + k, none⟩ = some (.int .i64 (l[k]?.getD 0))) (hB : ∀ k, k < n → ∃ b off, B = some ⟨b, off, none⟩ ∧ w.cell? ⟨b, off + k, none⟩ = some (.int .i64 (l[k]?.getD 0))) (hn : n ≤ 100000) :
    Calls Tryd.prog 9 #[.slice A n c, .slice B n c'] w fun e w' => e = .returned (.bool true) ∧ Below w.heap.size w w' := by
  have HA := Lib.hid hA; have HB := Lib.hid hB
  clear hA hB
  go_enter Tryd.func9, Tryd.ntmps9
  go_wp2_with fail
  go_loopw [5] (fun iv wr => ∃ k q : Nat, iv = .int .i64 k ∧ k ≤ n ∧ wr = w.drewN q) (fun iv _ => n - (intOf iv).toNat)
  case atStart => exact ⟨0, 0, rfl, by omega, rfl⟩
  case round =>
    obtain ⟨k, q, rfl, hk, rfl⟩ := hrel
    by_cases hlt : k < n
    · obtain ⟨b, off, rfl, e0⟩ := HA.out k hlt
      obtain ⟨b', off', rfl, e1⟩ := HB.out k hlt
      have hlt' : (k : Int) < (n : Int) := by omega
      generalize l[k]?.getD 0 = x at *
      go_wp2_with fail
      go_quiet (fail)
      go_wp2_with fail
      go_roundw
      case rel => exact ⟨k + 1, _, by go_num, by omega, rfl⟩
      case measure => simp [intOf]; omega
    · obtain rfl : k = n := by omega
      go_wp2_with fail
      go_ret
      exact ⟨rfl, below_drewN (Below.refl _ _) _⟩
set_option maxHeartbeats 1000000 in
theorem round_bad (A : Option Addr) (n c : Nat) (zs : List Int) (w : World) (hA : Ints w A n zs) (hn : n ≤ 4096) (hok : zs.all okA = false) :
    Calls Tryd.prog 10 #[.slice A n c] w fun e w' => e = .returned (.slice none 0 0) ∧ w = w' := by
  have hzl : zs.length = n := hA.1
  have hT := tot_bad (zs := zs) (by omega) hok
  have HT0 := total_any A n c zs w hA (by unfold maxLen; omega)
  rw [hT.1, hT.2] at HT0
  have HT := Lib.hid HT0
  clear HT0 hA hok hT hzl
  go_enter Tryd.func10, Tryd.ntmps10
  go_wp2_with (go_at_call 19; refine HT.out.mono ?_; rintro e w1 ⟨rfl, rfl⟩)
  go_ret
  exact ⟨rfl, rfl⟩
set_option maxRecDepth 100000 in
set_option maxHeartbeats 8000000 in
theorem refRound_bad (A : Option Addr) (n c : Nat) (zs : List Int) (w : World) (hA : Ints w A n zs) (hn : n ≤ 4096) (hok : zs.all okA = false) :
    Calls Tryd.prog 11 #[.slice A n c] w fun e w' => e = .returned (.slice none 0 0) ∧ Below w.heap.size w w' := by
  obtain ⟨i0, hi0, hz0, hz1, hz2⟩ := info_parts intInfo
  have hzl : zs.length = n := hA.1
  have HA := Lib.hid hA; have HOK := Lib.hid hok; have HZL := Lib.hid hzl
  have d1 : decide (4096 < (n : Int)) = false := decide_eq_false (by omega)
  clear hA hok hzl
  go_enter Tryd.func11, Tryd.ntmps11
  go_wp2_with fail
  have hb0 : Below w.heap.size w ((w.alloc (.cells #[] 3)).alloc (.cells #[] 3)) := ((Below.refl _ _).alloc (Nat.le_refl _) _).alloc (by simp) _
  have ho5 : ((w.alloc (.cells #[] 3)).alloc (.cells #[] 3)).ownsRow w.heap.size 3 1 (.slice (some ⟨w.heap.size, 0, none⟩) 0 0) 0 [] := World.ownsRow.alloc (own_lit w 3) _
  have ho6 : ((w.alloc (.cells #[] 3)).alloc (.cells #[] 3)).ownsRow w.heap.size 3 1 (.slice (some ⟨w.heap.size + 1, 0, none⟩) 0 0) 0 [] :=
    ⟨rfl, .inr ⟨w.heap.size + 1, 0, #[], rfl, by omega, by have := heap_alloc_new (w.alloc (.cells #[] 3)) (.cells #[] 3); simpa using this, by omega, by decide, rfl, rfl⟩⟩
  go_loopw [3, 4, 5, 6, 7] (fun sv hv v5 v6 iv wr => ∃ (k g5 c5 g6 c6 : Nat), k ≤ n ∧ Hid ((zs.take k).all okA = true) ∧ iv = .int .i64 k ∧ sv = .int .i64 (zs.take k).sum ∧ hv = .int .i64 ((zs.take k).map (· / 10000)).sum ∧ v5 = .slice (some ⟨g5, 0, none⟩) k c5 ∧ v6 = .slice (some ⟨g6, 0, none⟩) k c6 ∧
      g5 ≠ g6 ∧ Hid (wr.ownsRow w.heap.size 3 1 (.slice (some ⟨g5, 0, none⟩) k c5) k (((zs.take k).map (· / 10000)).map (Value.int .i64))) ∧ Hid (wr.ownsRow w.heap.size 3 1 (.slice (some ⟨g6, 0, none⟩) k c6) k (((zs.take k).map (· % 10000)).map (Value.int .i64))) ∧ Below w.heap.size w wr) (fun _ _ _ _ iv _ => n - (intOf iv).toNat)
  case atStart => exact ⟨0, w.heap.size, 0, w.heap.size + 1, 0, by omega, Lib.hid rfl, rfl, by simp, by simp, rfl, rfl, by omega, Lib.hid (by simpa using ho5), Lib.hid (by simpa using ho6), hb0⟩
  case round =>
    clear hb0 ho5 ho6 d1
    obtain ⟨k, g5, c5, g6, c6, hk, HTA, rfl, rfl, rfl, rfl, rfl, hne, HO5, HO6, hb⟩ := hrel
    have hs := hb.size
    by_cases hlt : k < n
    · obtain ⟨b, off, rfl, hbl, hc0⟩ := HA.out.2.2 k hlt
      have hc : wr.cell? ⟨b, off + k, none⟩ = some (.int .i64 (zs[k]?.getD 0)) := (hb.cell (p := ⟨b, off + k, none⟩) hbl).trans hc0
      have hts := take_step zs k (by rw [HZL.out]; omega)
      have hta := HTA.out
      have hss := sum_bound hta
      have hfs := floor_sum hta
      rw [show (zs.take k).length = k by rw [List.length_take, HZL.out]; omega] at hfs hss
      obtain ⟨z, hz⟩ : ∃ z, zs[k]?.getD 0 = z := ⟨_, rfl⟩
      rw [hz] at hc hts
      have hlt' : (k : Int) < (n : Int) := by omega
      cases hokz : okA z
      · have HV := Lib.hid (fun W => refValid_any z W)
        rw [hokz] at HV
        clear hc0 hts hokz hta hz
        go_wp2_with (go_at_call 14; (with_reducible refine (HV.out _).mono ?_); rintro e w3 ⟨rfl, rfl⟩)
        go_ret
        exact ⟨rfl, hb⟩
      have HTA2 : Hid ((zs.take (k + 1)).all okA = true) := Lib.hid (by rw [hts, List.all_append, hta]; simp [hokz])
      have hzb := okA_iff.1 hokz
      obtain ⟨r1, r2, r3, r4, r5⟩ := rem_is z hzb
      obtain ⟨R, hR⟩ : ∃ R, z % 10000 = R := ⟨_, rfl⟩
      obtain ⟨Q, hQ⟩ : ∃ Q, z / 10000 = Q := ⟨_, rfl⟩
      have hRb : 0 ≤ R ∧ R < 10000 := by omega
      have hQb : -112589990685 ≤ Q ∧ Q ≤ 112589990685 := by omega
      rw [hR] at r1 r2 r3
      rw [hQ] at r3
      have HT5 : Hid ((zs.take (k + 1)).map (· / 10000) = (zs.take k).map (· / 10000) ++ [Q]) := Lib.hid (by rw [hts, List.map_append, ← hQ]; rfl)
      have HT6 : Hid ((zs.take (k + 1)).map (· % 10000) = (zs.take k).map (· % 10000) ++ [R]) := Lib.hid (by rw [hts, List.map_append, ← hR]; rfl)
      have HTS : Hid ((zs.take (k + 1)).sum = (zs.take k).sum + z) := Lib.hid (by rw [hts, List.sum_append]; simp)
      obtain ⟨S, hS⟩ : ∃ S, (zs.take k).sum = S := ⟨_, rfl⟩
      obtain ⟨T, hT⟩ : ∃ T, ((zs.take k).map (· / 10000)).sum = T := ⟨_, rfl⟩
      have HTT : Hid (((zs.take (k + 1)).map (· / 10000)).sum = T + Q) := Lib.hid (by rw [HT5.out, List.sum_append, hT]; simp)
      have HV := Lib.hid (fun W => refValid_any z W)
      rw [hokz] at HV
      rw [hS] at hss HTS ⊢
      rw [hT] at hfs ⊢
      clear hc0 hts hokz hta hz hR hQ hS hT
      go_wp2_with (first
        | (go_at_call 14; (with_reducible refine (HV.out _).mono ?_); rintro e w3 ⟨rfl, rfl⟩)
        | (at_builtin; refine wpList_append_lies _ rfl (.tmp 41) (.tmp 43) 22 rfl w.heap.size 3 i0 (.int .i64 0) 1 8 Tryd.underlying22 hi0 hz0 hz1 hz2 rfl (by decide) _ _ _ rfl (World.ownsRow.alloc HO5.out _) ⟨wr.heap.size, 0, none⟩ 1 1 [.int .i64 Q] rfl rfl (cell_one _ _ _) (by intro u hu; simp at hu; subst hu; rfl) (by omega) (by unfold maxLen; omega) (by omega) (by simp; omega) (wr.heap.size + 1) (by simp) ?_; intro q5 d5 w5 hown5 hg5 hq5 hl5; have hc5 : w5.cell? ⟨b, off + k, none⟩ = some (.int .i64 z) := cellB5 hg5 hc (Nat.lt_of_lt_of_le hbl hs) (own_lt HO5.out).1 hbl; have HQ5 := Lib.hid hown5; have HO65 := Lib.hid (own_grown (World.ownsRow.alloc HO6.out (.cells #[.int .i64 Q] 3)) hg5 (by intro h; injection h with h; exact hne h.symm)); have HB5 := Lib.hid (belowB5 hb hg5 (own_lt HO5.out).1); clear hg5 hown5)
        | (at_builtin; refine wpList_append_lies _ rfl (.tmp 45) (.tmp 47) 22 rfl w.heap.size 3 i0 (.int .i64 0) 1 8 Tryd.underlying22 hi0 hz0 hz1 hz2 rfl (by decide) _ _ _ rfl (World.ownsRow.alloc HO65.out _) ⟨w5.heap.size, 0, none⟩ 1 1 [.int .i64 R] rfl rfl (cell_one _ _ _) (by intro u hu; simp at hu; subst hu; rfl) (by omega) (by unfold maxLen; omega) (by omega) (by simp; have := HB5.out.size; omega) (w5.heap.size + 1) (by simp) ?_; intro q6 d6 w6 hown6 hg6 hq6 hl6; have hc6 : w6.cell? ⟨b, off + k, none⟩ = some (.int .i64 z) := cellB5 hg6 hc5 (Nat.lt_of_lt_of_le hbl HB5.out.size) (own_lt HO65.out).1 hbl))
      have hg6l := (own_lt HO6.out).2
      have e5 : q5 = g5 ∨ q5 = wr.heap.size + 1 := by
        rcases hq5 with h | h
        · exact .inl (by injection h with h; exact h.symm)
        · exact .inr h
      have e6 : q6 = g6 ∨ q6 = w5.heap.size + 1 := by
        rcases hq6 with h | h
        · exact .inl (by injection h with h; exact h.symm)
        · exact .inr h
      have hq56 : q5 ≠ g6 := by omega
      have HN5 := Lib.hid (own_grown (World.ownsRow.alloc HQ5.out (.cells #[.int .i64 R] 3)) hg6 (by intro h; injection h with h; exact hq56 h))
      have HN6 := Lib.hid hown6
      have HB6 := Lib.hid (belowB5 HB5.out hg6 (own_lt HO6.out).1)
      have hqq : q5 ≠ q6 := by omega
      clear hg6 hown6 hq5 hq6 e5 e6
      go_roundw
      case rel => exact ⟨k + 1, q5, d5, q6, d6, by omega, HTA2, by go_num, by rw [HTS.out], by rw [HTT.out], rfl, rfl, hqq, Lib.hid (by rw [HT5.out]; simpa using HN5.out), Lib.hid (by rw [HT6.out]; simpa using HN6.out), HB6.out⟩
      case measure => simp [intOf]; omega
    · exfalso
      have := HTA.out
      rw [show zs.take k = zs from List.take_of_length_le (by rw [HZL.out]; omega), HOK.out] at this
      cases this
theorem own_cells {w : World} {base e : Nat} {v : Value} {n : Nat} {l : List Int} (hl : l.length = n) (h : w.ownsRow base e 1 v n (l.map (Value.int .i64))) :
    ∃ A c, v = .slice A n c ∧ ∀ k, k < n → ∃ b off, A = some ⟨b, off, none⟩ ∧ b < w.heap.size ∧ w.cell? ⟨b, off + k, none⟩ = some (.int .i64 (l[k]?.getD 0)) := by
  obtain ⟨A, c, rfl, _, hc⟩ := own_form h
  refine ⟨A, c, rfl, fun k hk => ?_⟩
  obtain ⟨g, rfl, _, hg, hcell⟩ := hc (by omega)
  refine ⟨g, 0, rfl, hg, ?_⟩
  rw [Nat.zero_add, hcell k hk, List.getElem?_map, List.getElem?_eq_getElem (by omega)]
  rfl
theorem cells_below {w w' : World} {A : Option Addr} {n : Nat} {l : List Int} (h : ∀ k, k < n → ∃ b off, A = some ⟨b, off, none⟩ ∧ b < w.heap.size ∧ w.cell? ⟨b, off + k, none⟩ = some (.int .i64 (l[k]?.getD 0)))
    (hb : Below w.heap.size w w') : ∀ k, k < n → ∃ b off, A = some ⟨b, off, none⟩ ∧ w'.cell? ⟨b, off + k, none⟩ = some (.int .i64 (l[k]?.getD 0)) := by
  intro k hk
  obtain ⟨b, off, e, hbl, hc⟩ := h k hk
  exact ⟨b, off, e, (hb.cell (p := ⟨b, off + k, none⟩) hbl).trans hc⟩
set_option maxRecDepth 100000 in
set_option maxHeartbeats 8000000 in
theorem walkRoundsGood (a : Int) (A : Option Addr) (n c : Nat) (zs : List Int) (w : World) (ha : -9223372036854775808 ≤ a ∧ a ≤ 9223372036854775807) (hH : Has w A n c (zs.map (Value.int .i64))) (hI : Ints w A n zs) (hn : n ≤ 200) (hP : Pows w) (hz : 0 < w.heap.size) (hok : zs.all okA = true) :
    Calls Tryd.prog 3 #[.int .i64 a, .slice A n c] w fun e w' => e = .returned (.bool true) ∧ Below w.heap.size w w' := by
  obtain ⟨i0, hi0, hz0, hz1, hz2⟩ := info_parts intInfo
  have hb0 : Below w.heap.size w (w.alloc (.cells #[] 3)) := (Below.refl _ _).alloc (Nat.le_refl _) _
  have HH := Lib.hid (hH.below hb0); clear hH
  have HI := Lib.hid hI; clear hI
  have HP := Lib.hid hP; clear hP
  have HOK := Lib.hid hok; clear hok
  have d1 : decide (200 < (n : Int)) = false := decide_eq_false (by omega)
  obtain ⟨R, hR⟩ : ∃ R, rndV a = R := ⟨_, rfl⟩
  have H1 := Lib.hid (rounded_any a ha)
  have H2 := Lib.hid (refRounded_any a ha)
  rw [hR] at H1 H2
  clear hR
  go_enter Tryd.func3, Tryd.ntmps3
  go_wp2_with (first
    | (go_at_call 7; (with_reducible refine (H1.out _).mono ?_); rintro e w3 ⟨rfl, rfl⟩)
    | (go_at_call 8; (with_reducible refine (H2.out _).mono ?_); rintro e w3 ⟨rfl, rfl⟩)
    | (at_builtin; refine wpList_guard rfl ?_; refine wpList_append_has rfl (.tmp 15) (.tmp 16) 22 rfl w.heap.size 3 i0 (.int .i64 0) 8 Tryd.underlying22 hi0 hz0 hz1 hz2 rfl _ 0 [] rfl (own_lit _ _) A n c _ rfl HH.out (by unfold maxLen; omega) (by omega) (by simp) ?_; intro v1 w1 hown1 hg1; have hb1 : Below w.heap.size w w1 := (hb0.grown hg1 (by simp) (fun g hg' => by cases hg'; exact Nat.le_refl _)); obtain ⟨A1, c1, rfl, hI1⟩ := ints_own2 HI.out.2.1 HI.out.1 (by simpa using hown1); have HI1 := Lib.hid hI1; clear hg1 hown1 hI1)
    | (go_at_call 10; (with_reducible refine (round_any A1 n c1 zs _ HI1.out (by omega) HOK.out).mono ?_); rintro e w2 ⟨C, m, rfl, hSP, hmn, hm, hown2, hb2⟩; have hbb := hb1.trans (hb2.mono hb1.size); have HI2 := Lib.hid (HI.out.below hbb); have HC2 := Lib.hid hown2; have HSP := Lib.hid hSP; have HM := Lib.hid hm; clear hSP hm hown2))
  with_reducible refine (refRound_any A n c m zs C _ HI2.out (by omega) HOK.out HSP.out hmn HM.out).mono ?_
  rintro e w3 ⟨v3, rfl, hown3, hb3⟩
  have hll : (addL (zs.map (· / 10000)) ((nats C).take m)).length = n := by (rw [addL_length, List.length_map]; exact HI.out.1)
  obtain ⟨B1, d1', eB, hB⟩ := own_cells hll HC2.out
  obtain ⟨B3, c3, rfl, hC3⟩ := own_cells hll hown3
  have HB := Lib.hid (cells_below hB hb3)
  have HC3 := Lib.hid (cells_below hC3 (Below.refl _ _))
  cases eB
  have HB3 := Lib.hid (hbb.trans (hb3.mono hbb.size))
  clear hown3 hll hB hC3
  go_wp2_with (first
    | (go_at_call 9; (with_reducible refine (same_ints _ _ n _ _ _ _ HB.out HC3.out (by omega)).mono ?_); rintro e w4 ⟨rfl, hb4⟩; have HBE := Lib.hid (HB3.out.trans (hb4.mono HB3.out.size)); have HPE := Lib.hid (HP.out.below hz HBE.out); have hzE := Nat.lt_of_lt_of_le hz HBE.out.size)
    | (go_at_call 6; (with_reducible refine (awake_any _ HPE.out hzE).mono ?_); rintro e w5 ⟨rfl, hb5⟩))
  go_ret
  exact ⟨rfl, HBE.out.trans (hb5.mono HBE.out.size)⟩
set_option maxRecDepth 100000 in
set_option maxHeartbeats 8000000 in
theorem walkRoundsBad (a : Int) (A : Option Addr) (n c : Nat) (zs : List Int) (w : World) (ha : -9223372036854775808 ≤ a ∧ a ≤ 9223372036854775807) (hH : Has w A n c (zs.map (Value.int .i64))) (hI : Ints w A n zs) (hn : n ≤ 200) (hP : Pows w) (hz : 0 < w.heap.size) (hok : zs.all okA = false) :
    Calls Tryd.prog 3 #[.int .i64 a, .slice A n c] w fun e w' => e = .returned (.bool true) ∧ Below w.heap.size w w' := by
  obtain ⟨i0, hi0, hz0, hz1, hz2⟩ := info_parts intInfo
  have hb0 : Below w.heap.size w (w.alloc (.cells #[] 3)) := (Below.refl _ _).alloc (Nat.le_refl _) _
  have HH := Lib.hid (hH.below hb0); clear hH
  have HI := Lib.hid hI; clear hI
  have HP := Lib.hid hP; clear hP
  have HOK := Lib.hid hok; clear hok
  have d1 : decide (200 < (n : Int)) = false := decide_eq_false (by omega)
  obtain ⟨R, hR⟩ : ∃ R, rndV a = R := ⟨_, rfl⟩
  have H1 := Lib.hid (rounded_any a ha)
  have H2 := Lib.hid (refRounded_any a ha)
  rw [hR] at H1 H2
  clear hR
  go_enter Tryd.func3, Tryd.ntmps3
  go_wp2_with (first
    | (go_at_call 7; (with_reducible refine (H1.out _).mono ?_); rintro e w3 ⟨rfl, rfl⟩)
    | (go_at_call 8; (with_reducible refine (H2.out _).mono ?_); rintro e w3 ⟨rfl, rfl⟩)
    | (at_builtin; refine wpList_guard rfl ?_; refine wpList_append_has rfl (.tmp 15) (.tmp 16) 22 rfl w.heap.size 3 i0 (.int .i64 0) 8 Tryd.underlying22 hi0 hz0 hz1 hz2 rfl _ 0 [] rfl (own_lit _ _) A n c _ rfl HH.out (by unfold maxLen; omega) (by omega) (by simp) ?_; intro v1 w1 hown1 hg1; have hb1 : Below w.heap.size w w1 := (hb0.grown hg1 (by simp) (fun g hg' => by cases hg'; exact Nat.le_refl _)); obtain ⟨A1, c1, rfl, hI1⟩ := ints_own2 HI.out.2.1 HI.out.1 (by simpa using hown1); have HI1 := Lib.hid hI1; clear hg1 hown1 hI1)
    | (go_at_call 10; (with_reducible refine (round_bad A1 n c1 zs _ HI1.out (by omega) HOK.out).mono ?_); rintro e w2 ⟨rfl, rfl⟩; have HI2 := Lib.hid (HI.out.below hb1))
    | (go_at_call 11; (with_reducible refine (refRound_bad A n c zs _ HI2.out (by omega) HOK.out).mono ?_); rintro e w3 ⟨rfl, hb3⟩; have HB3 := Lib.hid (hb1.trans (hb3.mono hb1.size)))
    | (go_at_call 9; (with_reducible refine (same_ints none none 0 0 0 [] _ (fun k hk => absurd hk (by omega)) (fun k hk => absurd hk (by omega)) (by omega)).mono ?_); rintro e w4 ⟨rfl, hb4⟩; have HBE := Lib.hid (HB3.out.trans (hb4.mono HB3.out.size)); have HPE := Lib.hid (HP.out.below hz HBE.out); have hzE := Nat.lt_of_lt_of_le hz HBE.out.size)
    | (go_at_call 6; (with_reducible refine (awake_any _ HPE.out hzE).mono ?_); rintro e w5 ⟨rfl, hb5⟩))
  go_ret
  exact ⟨rfl, HBE.out.trans (hb5.mono HBE.out.size)⟩
set_option maxHeartbeats 1000000 in
theorem walkAmountRounds (a : Int) (A : Option Addr) (n c : Nat) (zs : List Int) (w : World) (wa : (Lit.int .i64 a).wf = true) (hr : IsRow .i64 w A n c zs) (_hn : n * 8 ≤ 140737488351232) (hP : Pows w) (hz : 0 < w.heap.size) :
    Calls Tryd.prog 3 #[.int .i64 a, .slice A n c] w fun e w' => e = .returned (.bool true) ∧ Below w.heap.size w w' := by
  have ha := i64_bounds wa
  by_cases h : n ≤ 200
  · cases hok : (zs.take n).all okA
    · exact walkRoundsBad a A n c _ w ha (has_row hr) (ints_row2 hr) h hP hz hok
    · exact walkRoundsGood a A n c _ w ha (has_row hr) (ints_row2 hr) h hP hz hok
  · have hs1 : (200 : Int) < n := by omega
    clear hr h
    go_enter Tryd.func3, Tryd.ntmps3
    go_wp2_with (go_at_call 6; refine (awake_any _ hP hz).mono ?_; rintro e w4 ⟨rfl, hb4⟩)
    go_ret
    exact ⟨rfl, hb4⟩
end Go.Proofs.YtieifficpihmiaaDoor
