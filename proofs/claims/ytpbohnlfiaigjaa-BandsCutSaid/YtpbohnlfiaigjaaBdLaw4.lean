/- Walks: the law on the sums of seconds. -/
import Derived.Test.YtpbohnlfiaigjaaBdLaw3
namespace Go.Proofs.Ytpbohnlfiaigjaa
open Go.RowKit Go.Sort

set_option maxRecDepth 100000 in
set_option maxHeartbeats 16000000 in
theorem walkBandsSeconds (A : Option Addr) (n c : Nat) (l : List Bd) (B : Option Addr) (m c' : Nat) (hol : List Int) (a b : Int) (w : World) (hA : BdR w A l) (hn : l.length = n) (hc : n ≤ c) (hm : c ≤ maxLen) (hz : ∀ b ∈ l, b.2.length ≤ 6000000000000) (hB : IR w B hol) (hh : hol.length = m) (hc' : m ≤ c') (hm' : c' ≤ maxLen) :
    Calls Try.prog 7 #[.agg #[.slice A n c, .slice B m c'], .agg #[.int .i64 a, .int .i64 b]] w fun e w' => e = .returned (.bool true) ∧ Below w.heap.size w w' := by
  obtain ⟨ev, hev⟩ : ∃ v, ckB l = v := ⟨_, rfl⟩
  have HLT := Lib.hid (fun W h => light_any A B n c m c' l W h hn hc hm (by omega) hz)
  have HCK := Lib.hid (fun W h => check_is A n c l ev hev W h hn hc hm)
  have HS1 := Lib.hid (fun hq nm W h1 h2 => seconds_any A B n c m c' l hol a b nm W h1 hn hc hm h2 hh hc' hm' hq)
  have HSA := Lib.hid (fun h1 h2 h3 => sumS_all (l := l) hol (a := a) (b := b) h1 h2 h3)
  have HSE := Lib.hid (fun h1 => secs_empty (l := l) hol (a := a) (b := b) h1)
  have HSB := Lib.hid (sumS_bound (secs_cutW_bound l hol a b) l)
  have HS2 := Lib.hid (secs_cutW_bound l hol a b)
  obtain ⟨P, hP⟩ : ∃ P, cutW l hol a b = P := ⟨_, rfl⟩
  rw [hP] at HS1 HSA HSE HSB HS2
  rw [hev] at HSA HSE
  have HN8 : Hid (ev = 0 → n ≤ 64) := Lib.hid (fun h => by rw [← hn]; exact (ckB_0 (hev.trans h)).2.1)
  have HEV := Lib.hid hev
  have HA := Lib.hid hA; have HB := Lib.hid hB; have HN := Lib.hid hn
  have HBX := Lib.hid (Bxs.new w (.slice A n c) (.slice B m c') a b)
  have hb0 : Below w.heap.size w ((w.alloc (.cells #[.slice A n c, .slice B m c'] 32)).alloc (.cells #[.int .i64 a, .int .i64 b] 37)) := ((Below.refl _ w).alloc (Nat.le_refl _) _).alloc (by simp) _
  have hs0 := hb0.size
  obtain ⟨x0, x1, x2, x3⟩ := HBX.out.cells
  clear hA hB hn hm hh hz hP hev hm'
  go_enter Try.func7, Try.ntmps7
  go_wp2_with fail
  refine (HLT.out _ (HA.out.below hb0)).mono ?_
  rintro e w1 ⟨⟨lv, rfl, hlv⟩, hb1⟩
  have hbx := HBX.out.below hb1
  clear x0 x1 x2 x3
  obtain ⟨x0, x1, x2, x3⟩ := hbx.cells
  have hb2 := hb0.trans (hb1.mono hs0)
  have hs2 := hb2.size
  have HLV := Lib.hid hlv
  have HBX1 := Lib.hid hbx
  clear hb0 hs0 hb1 hbx HLT HBX hlv
  cases lv
  · go_wp2_with (go_at_call 14; (with_reducible refine (awake_any _).mono ?_); rintro e w6 ⟨rfl, hb6⟩; have hb7 := hb2.trans (hb6.mono hs2))
    go_ret
    exact ⟨rfl, hb7⟩
  · by_cases hz0 : ev = 0
    · subst hz0
      have HQ : Hid (ckB l = 0 → nsl l ≤ 100) := Lib.hid (fun h => by have := ((HLV.out rfl).2 h).1; omega)
      have hn64 := HN8.out rfl
      clear HLV HN8
      cases hv : vl (a, b)
      · have HVA := Lib.hid (refValid_is a b _ hv)
        clear hv
        go_wp2_with (first
          | (go_at_call 15; (with_reducible refine (HCK.out _ (HA.out.below hb2)).mono ?_); rintro e w3 ⟨rfl, hb3⟩; have hb4 := hb2.trans (hb3.mono hs2); have hs4 := hb4.size; have HX3 := Lib.hid (HBX1.out.below hb3); obtain ⟨a0, a1, a2, a3⟩ := HX3.out.cells)
          | (go_at_call 25; (with_reducible refine (HVA.out _).mono ?_); rintro e w5 ⟨rfl, hb5⟩; have hb6 := hb4.trans (hb5.mono hs4); have hs6 := hb6.size)
          | (go_at_call 14; (with_reducible refine (awake_any _).mono ?_); rintro e w7 ⟨rfl, hb7⟩; have hb8 := hb6.trans (hb7.mono hs6)))
        go_ret
        exact ⟨rfl, hb8⟩
      · have HVA := Lib.hid (refValid_is a b _ hv)
        obtain ⟨v0, v1, v2⟩ := vl_iff.1 hv
        simp only at v0 v1 v2
        have HVV := Lib.hid hv
        clear hv
        by_cases hs : b - a ≤ 2678400
        · have d1 : decide (2678400 < b - a) = false := decide_eq_false (by omega)
          go_wp2_with (first
            | (go_at_call 15; (with_reducible refine (HCK.out _ (HA.out.below hb2)).mono ?_); rintro e w3 ⟨rfl, hb3⟩; have hb4 := hb2.trans (hb3.mono hs2); have hs4 := hb4.size; have HX3 := Lib.hid (HBX1.out.below hb3); obtain ⟨a0, a1, a2, a3⟩ := HX3.out.cells)
            | (go_at_call 25; (with_reducible refine (HVA.out _).mono ?_); rintro e w5 ⟨rfl, hb5⟩; have hb6 := hb4.trans (hb5.mono hs4); have hs6 := hb6.size; have HX5 := Lib.hid (HX3.out.below hb5); obtain ⟨c0, c1, c2, c3⟩ := HX5.out.cells))
          clear x0 x1 x2 x3 a0 a1 a2 a3 c0 c1 c2 c3 hb5 d1
          go_loopw [5, 6] (fun sv kv wr => ∃ k : Nat, kv = .int .i64 k ∧ k ≤ n ∧ sv = .int .i64 (sumS P (l.take k)) ∧ Below w5.heap.size w5 wr) (fun _ kv _ => n - (intOf kv).toNat)
          case atStart => exact ⟨0, rfl, by omega, rfl, Below.refl _ _⟩
          case round =>
            obtain ⟨k, rfl, hk, rfl, hb⟩ := hrel
            have hbw := hb6.trans (hb.mono hs6)
            have hsr := hb.size
            have HXr := Lib.hid (HX5.out.below hb)
            obtain ⟨c0, c1, c2, c3⟩ := HXr.out.cells
            by_cases hlt : k < n
            · have hkl : k < l.length := by rw [HN.out]; exact hlt
              obtain ⟨bk, off, S, c2', rfl, hbl, q0, _⟩ := HA.out k hkl
              have e0 := (hbw.cell (p := ⟨bk, off + k * 2, none⟩) hbl).trans q0
              have hlt' : (k : Int) < (n : Int) := by omega
              obtain ⟨⟨x, ss⟩, hp⟩ : ∃ p, l.getD k bd0 = p := ⟨_, rfl⟩
              rw [hp] at e0
              simp only at e0
              have HST := Lib.hid (sumS_step (P := P) hkl hp)
              obtain ⟨b1, b2⟩ := HSB.out k (by omega)
              obtain ⟨b3, b4⟩ := HS2.out x
              obtain ⟨s0, hs0⟩ : ∃ s, sumS P (l.take k) = s := ⟨_, rfl⟩
              obtain ⟨s1, hs1⟩ : ∃ s, secs P x = s := ⟨_, rfl⟩
              have HE : Hid (∀ d os, Calls Try.prog 23 #[.slice (some ⟨bk, off, none⟩) n c, .slice B m c', .agg #[.int .i64 a, .int .i64 b], .string x] (grow (redrawn wr d) os) fun e w' => e = .returned (.int .i64 s1) ∧ Below (grow (redrawn wr d) os).heap.size (grow (redrawn wr d) os) w') := Lib.hid (fun d os => by
                rw [← hs1]; exact HS1.out HQ.out x _ ((HA.out.below hbw).below (below_regrown wr d os)) ((HB.out.below hbw).below (below_regrown wr d os)))
              rw [hs0] at b1 b2 HST ⊢
              rw [hs1] at b3 b4 HST
              clear q0 hp hs0 hs1 hkl
              have hk64 : k ≤ 64 := by omega
              have hsb : s0 ≤ 459124899840000 := by omega
              have k0 := cell_regrown c0
              have k1 := cell_regrown c1
              have k2 := cell_regrown c2
              have k3 := cell_regrown c3
              have k4 := cell_regrown e0
              clear b2
              go_wp2_with fail
              refine wp_region_quiet_below (by kernel_rfl) (by kernel_rfl) ?_
              iterate 15 (go_big_quiet_step ((with_reducible exact Calls.regrown_of (HE.out _ _))))
              refine wpQuiet_nil ?_
              intro _ hw'
              obtain ⟨⟨dq, osq⟩, hw''⟩ := hw'
              subst hw''
              go_wp2_with fail
              go_roundw
              case rel => exact ⟨k + 1, by go_num, by omega, by rw [HST.out], hb.trans ((below_regrown wr dq osq).mono hsr)⟩
              case measure => simp [intOf]; omega
            · obtain rfl : k = n := by omega
              have HT : Hid (sumS P (l.take k) = b - a) := Lib.hid (by rw [← HN.out, List.take_length]; exact HSA.out trivial HVV.out hs)
              have HE := Lib.hid (fun W h1 h2 => HS1.out HQ.out ⟨#[]⟩ W h1 h2)
              rw [show secs P ⟨#[]⟩ = 0 from HSE.out trivial] at HE
              rw [HT.out]
              have hsw := hbw.size
              go_wp2_with (first
                | (go_at_call 23; (with_reducible refine (HE.out _ (HA.out.below hbw) (HB.out.below hbw)).mono ?_); rintro e w7 ⟨rfl, hb7⟩; have hb8 := hbw.trans (hb7.mono hsw); have hs8 := hb8.size)
                | (go_at_call 14; (with_reducible refine (awake_any _).mono ?_); rintro e w9 ⟨rfl, hb9⟩; have hb10 := hb8.trans (hb9.mono hs8)))
              go_ret
              exact ⟨rfl, hb10⟩
        · have d1 : decide (2678400 < b - a) = true := decide_eq_true (by omega)
          go_wp2_with (first
            | (go_at_call 15; (with_reducible refine (HCK.out _ (HA.out.below hb2)).mono ?_); rintro e w3 ⟨rfl, hb3⟩; have hb4 := hb2.trans (hb3.mono hs2); have hs4 := hb4.size; have HX3 := Lib.hid (HBX1.out.below hb3); obtain ⟨a0, a1, a2, a3⟩ := HX3.out.cells)
            | (go_at_call 25; (with_reducible refine (HVA.out _).mono ?_); rintro e w5 ⟨rfl, hb5⟩; have hb6 := hb4.trans (hb5.mono hs4); have hs6 := hb6.size; have HX5 := Lib.hid (HX3.out.below hb5); obtain ⟨c0, c1, c2, c3⟩ := HX5.out.cells)
            | (go_at_call 14; (with_reducible refine (awake_any _).mono ?_); rintro e w7 ⟨rfl, hb7⟩; have hb8 := hb6.trans (hb7.mono hs6)))
          go_ret
          exact ⟨rfl, hb8⟩
    · have hzq : (ev == 0) = false := by simp [hz0]
      go_wp2_with (first
        | (go_at_call 15; (with_reducible refine (HCK.out _ (HA.out.below hb2)).mono ?_); rintro e w3 ⟨rfl, hb3⟩; have hb4 := hb2.trans (hb3.mono hs2); have hs4 := hb4.size)
        | (go_at_call 14; (with_reducible refine (awake_any _).mono ?_); rintro e w7 ⟨rfl, hb7⟩; have hb8 := hb4.trans (hb7.mono hs4)))
      go_ret
      exact ⟨rfl, hb8⟩
end Go.Proofs.Ytpbohnlfiaigjaa
