/- Walks of the reference: how many units fall into a step, what they cost, the price. -/
import Derived.Test.YtcjceecdcjjnfaaLdP
import Derived.Lib.QuietBelow
import Derived.BigQuiet
namespace Go.Proofs.Ytcjceecdcjjnfaa.Ck
open Go Go.Lib Go.RowKit Go.Proofs.Ytcjceecdcjjnfaa

/-- What a step costs, one more than the limit if it is more. -/
def capN (c : Nat) : Nat := min c 1125899906842625
theorem ceil_div {u q : Nat} (hq : 1 ≤ q) : ceilN u q = if u % q = 0 then u / q else u / q + 1 := by
  unfold ceilN
  have h := Nat.div_add_mod u q
  have hlt := Nat.mod_lt u (show 0 < q by omega)
  by_cases h0 : u % q = 0
  · rw [if_pos h0]
    rw [h0] at h
    have e : u + q - 1 = q * (u / q) + (q - 1) := by omega
    rw [e, Nat.mul_add_div (show 0 < q by omega), Nat.div_eq_of_lt (show q - 1 < q by omega), Nat.add_zero]
  · rw [if_neg h0]
    have e : u + q - 1 = q * (u / q) + (u % q + q - 1) := by omega
    rw [e, Nat.mul_add_div (show 0 < q by omega)]
    congr 1
    have e2 : u % q + q - 1 = q * 1 + (u % q - 1) := by omega
    rw [e2, Nat.mul_add_div (show 0 < q by omega), Nat.div_eq_of_lt (show u % q - 1 < q by omega)]
theorem mul_over {p b m : Nat} (hp : 0 < p) : m / p < b ↔ m < p * b := by
  rw [Nat.div_lt_iff_lt_mul hp, Nat.mul_comm]

set_option maxRecDepth 100000 in
set_option maxHeartbeats 8000000 in
theorem inStep_any (s : Sp) (b n u : Int) (hn : 0 ≤ n ∧ n ≤ 1099511627776) (hb : 0 ≤ b ∧ b ≤ 1099511627776) (hup : 0 ≤ s.up ∧ s.up ≤ 1099511627776) (hu : max 0 ((if s.up = 0 then n else min n s.up) - b) = u) (w : World) :
    Calls Try.prog 22 #[.agg s.cells, .int .i64 b, .int .i64 n] w fun e w' => e = .returned (.int .i64 u) ∧ Below w.heap.size w w' := by
  obtain ⟨up, qu, pr⟩ := s
  simp only [Sp.cells] at hu hup ⊢
  have hB := Blk.new w 37 #[.int .i64 up, .int .i64 qu, .int .i64 pr]
  have HB := Lib.hid (below_one w (.cells #[.int .i64 up, .int .i64 qu, .int .i64 pr] 37))
  have c0 := hB.cell 0; have c1 := hB.cell 1; have c2 := hB.cell 2
  clear hB
  by_cases h0 : up = 0
  · have d0 : (up != 0) = false := by rw [bne_eq_false_iff_eq]; exact h0
    have HU : Hid (max 0 (n - b) = u) := Lib.hid (by rw [← hu, if_pos h0])
    clear hu h0
    go_enter Try.func22, Try.ntmps22
    go_wp2_with fail
    go_ret
    exact ⟨ret_i HU.out, HB.out⟩
  · have d0 : (up != 0) = true := by rw [bne_iff_ne]; exact h0
    by_cases h1 : up < n
    · have d1 : decide (up < n) = true := decide_eq_true h1
      have HU : Hid (max 0 (up - b) = u) := Lib.hid (by rw [← hu, if_neg h0, Int.min_eq_right (by omega)])
      clear hu h0 h1
      go_enter Try.func22, Try.ntmps22
      go_wp2_with fail
      go_ret
      exact ⟨ret_i HU.out, HB.out⟩
    · have d1 : decide (up < n) = false := decide_eq_false h1
      have HU : Hid (max 0 (n - b) = u) := Lib.hid (by rw [← hu, if_neg h0, Int.min_eq_left (by omega)])
      clear hu h0 h1
      go_enter Try.func22, Try.ntmps22
      go_wp2_with fail
      go_ret
      exact ⟨ret_i HU.out, HB.out⟩

set_option maxRecDepth 100000 in
set_option maxHeartbeats 8000000 in
theorem cost_any (p q u v : Nat) (up : Int) (hp : p ≤ 1125899906842624) (hq : 1 ≤ q ∧ q ≤ 1099511627776) (hu : u ≤ 1099511627776) (hv : capN (p * ceilN u q) = v) (w : World) :
    Calls Try.prog 21 #[.agg #[.int .i64 up, .int .i64 q, .int .i64 p], .int .i64 u] w fun e w' => e = .returned (.int .i64 v) ∧ Below w.heap.size w w' := by
  have hB := Blk.new w 37 #[.int .i64 up, .int .i64 q, .int .i64 p]
  have HB := Lib.hid (below_one w (.cells #[.int .i64 up, .int .i64 q, .int .i64 p] 37))
  have c0 := hB.cell 0; have c1 := hB.cell 1; have c2 := hB.cell 2
  clear hB
  have hq0 : ((q : Int) == 0) = false := by rw [beq_eq_false_iff_ne]; omega
  have e1 : (u : Int).tdiv (q : Int) = ((u / q : Nat) : Int) := by rw [← Int.ofNat_tdiv]
  have e2 : (u : Int).tmod (q : Int) = ((u % q : Nat) : Int) := by rw [← Int.ofNat_tmod]
  have hcd := ceil_div (u := u) hq.1
  have hle := ceilN_le (u := u) hq.1
  have hdl : u / q ≤ 1099511627776 := Nat.le_trans (Nat.div_le_self u q) hu
  obtain ⟨B, hBv⟩ : ∃ B, ceilN u q = B := ⟨_, rfl⟩
  rw [hBv] at hcd hle hv
  obtain ⟨D, hD⟩ : ∃ D, u / q = D := ⟨_, rfl⟩
  obtain ⟨R, hR⟩ : ∃ R, u % q = R := ⟨_, rfl⟩
  rw [hD, hR] at hcd
  rw [hD] at e1 hdl
  rw [hR] at e2
  have hqz : ¬ q = 0 := by omega
  have f1 : IntKind.i64.wrap ((u : Int).tdiv (q : Int)) = (D : Int) := by rw [e1]; simp only [IntKind.wrap_i64]; omega
  have hRq : R ≤ 1099511627776 := by rw [← hR]; have := Nat.mod_lt u (show 0 < q by omega); omega
  have f2 : IntKind.i64.wrap ((u : Int).tmod (q : Int)) = (R : Int) := by rw [e2]; simp only [IntKind.wrap_i64]; omega
  clear hD hR hBv hq0
  have ways : (B = D ∧ R = 0) ∨ (B = D + 1 ∧ R ≠ 0) := by
    by_cases hR : R = 0
    · exact .inl ⟨by rw [hcd, if_pos hR], hR⟩
    · exact .inr ⟨by rw [hcd, if_neg hR], hR⟩
  clear hcd
  obtain ⟨M, hM⟩ : ∃ M, 1125899906842624 / p = M := ⟨_, rfl⟩
  have hM2 : M ≤ 1125899906842624 := by rw [← hM]; exact Nat.div_le_self _ _
  have f3 : IntKind.i64.wrap ((1125899906842624 : Int).tdiv (p : Int)) = (M : Int) := by
    have : (1125899906842624 : Int).tdiv (p : Int) = ((1125899906842624 / p : Nat) : Int) := by rw [Int.ofNat_tdiv]; rfl
    rw [this, hM]; simp only [IntKind.wrap_i64]; omega
  have pways : (p = 0 ∧ v = 0) ∨ (0 < p ∧ M < B ∧ v = 1125899906842625) ∨ (0 < p ∧ ¬ M < B ∧ p * B = v ∧ v ≤ 1125899906842624) := by
    rcases Nat.eq_zero_or_pos p with h | h
    · left; refine ⟨h, ?_⟩; rw [← hv, h, Nat.zero_mul]; rfl
    · right
      by_cases g : M < B
      · left; refine ⟨h, g, ?_⟩; have := (mul_over h).1 (hM ▸ g); rw [← hv]; unfold capN; omega
      · right; have g2 : ¬ 1125899906842624 < p * B := fun x => g (hM ▸ (mul_over h).2 x)
        refine ⟨h, g, ?_, ?_⟩
        · rw [← hv]; unfold capN; omega
        · rw [← hv]; unfold capN; omega
  clear hM hv
  have fm : p * B = v ∧ v ≤ 1125899906842624 → IntKind.i64.wrap ((B : Int) * (p : Int)) = (v : Int) := fun ⟨h1, h2⟩ => by
    have : (B : Int) * (p : Int) = ((p * B : Nat) : Int) := by rw [Nat.mul_comm, Int.natCast_mul]
    rw [this, h1]; simp only [IntKind.wrap_i64]; omega
  rcases ways with ⟨hB, hR⟩ | ⟨hB, hR⟩
  · have r0 : ((R : Int) != 0) = false := by rw [bne_eq_false_iff_eq]; omega
    have rz : R = 0 := hR
    subst hB
    rcases pways with ⟨hp0, rfl⟩ | ⟨hp0, hg, rfl⟩ | ⟨hp0, hg, hx⟩
    · have d1 : decide ((0 : Int) < (p : Int)) = false := decide_eq_false (by omega)
      have fz : IntKind.i64.wrap ((B : Int) * (p : Int)) = 0 := by rw [hp0]; simp only [IntKind.wrap_i64]; omega
      have hpn : ¬ 0 < p := by omega
      clear fm f3 hp0
      go_enter Try.func21, Try.ntmps21
      go_wp2_with fail
      go_ret
      exact ⟨ret_i rfl, HB.out⟩
    · have d1 : decide ((0 : Int) < (p : Int)) = true := decide_eq_true (by omega)
      have hpz : ¬ p = 0 := by omega
      have d2 : decide ((M : Int) < (B : Int)) = true := decide_eq_true (by omega)
      clear fm
      go_enter Try.func21, Try.ntmps21
      go_wp2_with fail
      go_ret
      exact ⟨rfl, HB.out⟩
    · have d1 : decide ((0 : Int) < (p : Int)) = true := decide_eq_true (by omega)
      have hpz : ¬ p = 0 := by omega
      have d2 : decide ((M : Int) < (B : Int)) = false := decide_eq_false (by omega)
      have fmv := fm hx
      clear fm
      go_enter Try.func21, Try.ntmps21
      go_wp2_with fail
      go_ret
      exact ⟨rfl, HB.out⟩
  · have r0 : ((R : Int) != 0) = true := by rw [bne_iff_ne]; omega
    have rz : ¬ R = 0 := hR
    have hBD : (B : Int) = (D : Int) + 1 := by omega
    rcases pways with ⟨hp0, rfl⟩ | ⟨hp0, hg, rfl⟩ | ⟨hp0, hg, hx⟩
    · have d1 : decide ((0 : Int) < (p : Int)) = false := decide_eq_false (by omega)
      have fz : IntKind.i64.wrap (((D : Int) + 1) * (p : Int)) = 0 := by rw [hp0]; simp only [IntKind.wrap_i64]; omega
      have hpn : ¬ 0 < p := by omega
      clear fm f3 hp0
      go_enter Try.func21, Try.ntmps21
      go_wp2_with fail
      go_ret
      exact ⟨ret_i rfl, HB.out⟩
    · have d1 : decide ((0 : Int) < (p : Int)) = true := decide_eq_true (by omega)
      have hpz : ¬ p = 0 := by omega
      have d2 : decide ((M : Int) < ((D : Int) + 1)) = true := decide_eq_true (by omega)
      clear fm
      go_enter Try.func21, Try.ntmps21
      go_wp2_with fail
      go_ret
      exact ⟨rfl, HB.out⟩
    · have d1 : decide ((0 : Int) < (p : Int)) = true := decide_eq_true (by omega)
      have hpz : ¬ p = 0 := by omega
      have d2 : decide ((M : Int) < ((D : Int) + 1)) = false := decide_eq_false (by omega)
      have fmv := fm hx
      rw [hBD] at fmv
      clear fm
      go_enter Try.func21, Try.ntmps21
      go_wp2_with fail
      go_ret
      exact ⟨rfl, HB.out⟩

set_option maxRecDepth 100000 in
set_option maxHeartbeats 8000000 in
theorem refPrice_any (A : Option Addr) (m c : Nat) (l : List Sp) (n : Int) (w : World) (hA : SpR w A l) (hm : l.length = m) (hc : m ≤ c) (hcm : c ≤ maxLen) :
    Calls Try.prog 11 #[.slice A m c, .int .i64 n] w fun e w' => e = .returned (.tuple #[.int .i64 (pcV l n), .int .i64 (pcE l n)]) ∧ Below w.heap.size w w' := by
  have HST := Lib.hid (fun (v : Int) (h : stepsE l = v) => h ▸ refSteps_any A m c l w hA hm hc hcm)
  by_cases hs : stepsE l = 0
  · have OK := ok_of hs
    have HE : Hid (pcV l n = prV l n ∧ pcE l n = prE l n) := Lib.hid (by unfold pcV pcE; rw [if_pos hs, if_pos hs]; exact ⟨rfl, rfl⟩)
    have HS0 := Lib.hid (HST.out 0 hs)
    clear HST
    cases hv : inB n 0 1099511627776
    · have he : prE l n = 6 := by unfold prE; rw [if_pos hv]
      have HR : Hid (pcV l n = 0 ∧ pcE l n = 6) := Lib.hid ⟨by rw [HE.out.1, prV_six (by rw [he]; decide)], by rw [HE.out.2, he]⟩
      have ho : n < 0 ∨ (¬ n < 0 ∧ 1099511627776 < n) := by
        by_cases h : n < 0
        · exact .inl h
        · refine .inr ⟨h, ?_⟩
          have h2 : ¬ (0 ≤ n ∧ n ≤ 1099511627776) := fun x => by rw [inR_iff.2 x] at hv; cases hv
          omega
      clear hA hm hs OK hv he
      rcases ho with h | ⟨h, h2⟩
      · have d1 : decide (n < 0) = true := decide_eq_true h
        go_enter Try.func11, Try.ntmps11
        go_wp2_with (go_at_call 20; (with_reducible refine HS0.out.mono ?_); rintro e w1 ⟨rfl, hb1⟩; have HB1 := Lib.hid hb1; clear hb1)
        go_ret2
        exact ⟨ret_2 HR.out.1.symm HR.out.2.symm, HB1.out⟩
      · have d1 : decide (n < 0) = false := decide_eq_false h
        have d2 : decide (1099511627776 < n) = true := decide_eq_true h2
        go_enter Try.func11, Try.ntmps11
        go_wp2_with (go_at_call 20; (with_reducible refine HS0.out.mono ?_); rintro e w1 ⟨rfl, hb1⟩; have HB1 := Lib.hid hb1; clear hb1)
        go_ret2
        exact ⟨ret_2 HR.out.1.symm HR.out.2.symm, HB1.out⟩
    · have hn := inR_iff.1 hv
      obtain ⟨N, rfl⟩ := Int.eq_ofNat_of_zero_le hn.1
      have HP : Hid (prE l (N : Int) = if 1125899906842624 < prcN l N then 6 else 0) := Lib.hid (by unfold prE; rw [hv, if_neg (by decide)]; rfl)
      have hN : N ≤ 1099511627776 := by omega
      have d1 : decide ((N : Int) < 0) = false := decide_eq_false (by omega)
      have d2 : decide (1099511627776 < (N : Int)) = false := decide_eq_false (by omega)
      have HA := Lib.hid hA; have HM := Lib.hid hm; have HOK := Lib.hid OK
      have hm1 : 1 ≤ m := by rw [← hm]; exact OK.pos
      have hm64 : m ≤ 64 := by rw [← hm]; exact OK.len
      clear hA hm hs OK hv hn
      go_enter Try.func11, Try.ntmps11
      go_wp2_with (go_at_call 20; (with_reducible refine HS0.out.mono ?_); rintro e w1 ⟨rfl, hb1⟩; have HB1 := Lib.hid hb1; clear hb1)
      clear HS0 d1 d2
      go_loopw [6, 7, 8] (fun s6 s7 s8 wr => ∃ (k s : Nat) (b : Int), s8 = .int .i64 k ∧ s6 = .int .i64 (capN s : Nat) ∧ s7 = .int .i64 b ∧ k ≤ m ∧ Hid (Below w.heap.size w wr) ∧ Hid (k < m → prv l k = b) ∧ Hid (s + sumF (cstN l N) k (m - k) = prcN l N)) (fun _ _ s8 _ => m - (RowKit.intOf s8).toNat)
      case atStart => exact ⟨0, 0, 0, rfl, rfl, rfl, by omega, HB1, Lib.hid (fun _ => rfl), Lib.hid (by unfold prcN; rw [HM.out]; simp)⟩
      case round =>
        obtain ⟨k, s, b, rfl, rfl, rfl, hk, HB, HV, HS⟩ := hrel
        have hcs : capN s ≤ 1125899906842625 := by unfold capN; omega
        obtain ⟨cs, hcse⟩ : ∃ c, capN s = c := ⟨_, rfl⟩
        rw [hcse] at hcs ⊢
        by_cases hlt : k < m
        · have hkl : k < l.length := by rw [HM.out]; exact hlt
          have hlt' : (k : Int) < (m : Int) := by omega
          obtain ⟨bk, off, hAe, hbl, g0, g1, g2⟩ := HA.out.below HB.out rfl k hkl
          subst hAe
          obtain ⟨⟨up, qu, pr⟩, hp⟩ : ∃ r, l.getD k sp0 = r := ⟨_, rfl⟩
          have hup := HOK.out.up0 k hkl; have hqu := HOK.out.qu k hkl; have hpr := HOK.out.pr k hkl
          have hla := HOK.out.last k hkl
          have hbv := HV.out hlt
          have hb0 := HOK.out.prv0 (i := k) (by omega)
          rw [hbv] at hb0
          have hsum := HS.out
          rw [sumF_next hlt] at hsum
          have hcst : cstN l N k = pr.toNat * ceilN (unN l N k) qu.toNat := by unfold cstN; rw [hp]
          have hun : unN l N k = ((if k + 1 = m then (N : Int) else min (N : Int) up) - b).toNat := by unfold unN; rw [hp, HM.out, hbv]
          rw [hp] at g0 g1 g2 hup hqu hpr hla
          rw [HM.out] at hla
          simp only at g0 g1 g2 hup hqu hpr hla
          have hpv : k + 1 < m → prv l (k + 1) = up := by intro _; unfold prv; rw [if_neg (by omega), show k + 1 - 1 = k by omega, hp]
          obtain ⟨u, hu⟩ : ∃ u, unN l N k = u := ⟨_, rfl⟩
          rw [hu] at hcst hun
          have hu2 : u ≤ 1099511627776 := by split at hun <;> omega
          have hui : max 0 ((if up = 0 then (N : Int) else min (N : Int) up) - b) = (u : Int) := by
            by_cases h : up = 0
            · rw [if_pos h]; rw [if_pos (hla.1 h)] at hun; omega
            · rw [if_neg h]; rw [if_neg (fun x => h (hla.2 x))] at hun; omega
          obtain ⟨p, rfl⟩ := Int.eq_ofNat_of_zero_le hpr.1
          obtain ⟨q, rfl⟩ := Int.eq_ofNat_of_zero_le (show 0 ≤ qu by omega)
          simp only [Int.toNat_natCast] at hcst
          obtain ⟨C, hC⟩ : ∃ C, p * ceilN u q = C := ⟨_, rfl⟩
          rw [hcst, hC] at hsum
          obtain ⟨v, hv⟩ : ∃ v, capN C = v := ⟨_, rfl⟩
          have hv2 : v ≤ 1125899906842625 := by rw [← hv]; unfold capN; omega
          have hmin : min ((cs : Int) + (v : Int)) 1125899906842625 = ((capN (s + C) : Nat) : Int) := by rw [← hcse, ← hv]; unfold capN; omega
          have HIN := Lib.hid (fun wx => inStep_any ⟨up, q, p⟩ b (N : Int) (u : Int) (by omega) hb0 hup hui wx)
          have HCO := Lib.hid (fun wx => cost_any p q u v up (by omega) (by omega) hu2 (by rw [hC]; exact hv) wx)
          simp only [Sp.cells] at HIN
          have HSUM := Lib.hid hsum; have HPV := Lib.hid hpv; have HMIN := Lib.hid hmin
          clear hp hcst hun hsum hpv hC hu HS HV hkl hbl hbv hui hv hmin hla hb0 hup hqu hpr hu2
          go_wp2_with fail
          have q0 := fun d os => cell_regrown g0 d os
          have q1 := fun d os => cell_regrown g1 d os
          have q2 := fun d os => cell_regrown g2 d os
          have hmin := HMIN.out
          have hwr : IntKind.i64.wrap ((cs : Int) + (v : Int)) = (cs : Int) + (v : Int) := by simp only [IntKind.wrap_i64]; omega
          refine wp_region_quiet_below (by kernel_rfl) (by kernel_rfl) ?_
          iterate 16 (go_big_quiet_step ((first
            | (go_at_call 22; (with_reducible exact Calls.regrown_of (HIN.out _)))
            | (go_at_call 21; (with_reducible exact Calls.regrown_of (HCO.out _))))))
          refine wpQuiet_nil ?_
          intro W5 hw'
          obtain ⟨⟨rd, ro⟩, hw'⟩ := hw'
          have HB5 : Hid (Below wr.heap.size wr W5) := Lib.hid (hw' ▸ below_regrown wr rd ro)
          have z0 := (HB5.out.cell (block_lt_of_cell g0)).trans g0
          have z1 := (HB5.out.cell (block_lt_of_cell g1)).trans g1
          have z2 := (HB5.out.cell (block_lt_of_cell g2)).trans g2
          clear hw' q0 q1 q2 g0 g1 g2 hmin hwr
          go_wp2_with fail
          go_roundw
          case rel => exact ⟨k + 1, s + C, _, by go_num, rfl, rfl, by omega, Lib.hid (HB.out.trans (HB5.out.mono HB.out.size)), Lib.hid (fun h => HPV.out h), Lib.hid (by have := HSUM.out; omega)⟩
          case measure => simp [RowKit.intOf]; omega
        · obtain rfl : k = m := by omega
          have hs2 : s = prcN l N := by have := HS.out; rw [sumF_end] at this; omega
          by_cases ho : 1125899906842624 < prcN l N
          · have h6 : prE l (N : Int) = 6 := by rw [HP.out, if_pos ho]
            have HR : Hid (pcV l (N : Int) = 0 ∧ pcE l (N : Int) = 6) := Lib.hid ⟨by rw [HE.out.1, prV_six (by rw [h6]; decide)], by rw [HE.out.2, h6]⟩
            have dk : decide ((1125899906842624 : Int) < (cs : Int)) = true := decide_eq_true (by rw [← hcse]; unfold capN; omega)
            clear hs2 HS HV ho h6
            go_wp2_with fail
            go_ret2
            exact ⟨ret_2 HR.out.1.symm HR.out.2.symm, HB.out⟩
          · have h0 : prE l (N : Int) = 0 := by rw [HP.out, if_neg ho]
            have hcs3 : cs = prcN l N := by rw [← hcse]; unfold capN; omega
            have HR : Hid (pcV l (N : Int) = (cs : Int) ∧ pcE l (N : Int) = 0) := Lib.hid ⟨by rw [HE.out.1, prV_zero h0, hcs3]; rfl, by rw [HE.out.2, h0]⟩
            have dk : decide ((1125899906842624 : Int) < (cs : Int)) = false := decide_eq_false (by omega)
            clear hs2 HS HV ho h0 hcs3
            go_wp2_with fail
            go_ret2
            exact ⟨ret_2 HR.out.1.symm HR.out.2.symm, HB.out⟩
  · have HS8 : Hid (pcV l n = 0 ∧ pcE l n = 8) := Lib.hid (by unfold pcV pcE; rw [if_neg hs, if_neg hs]; exact ⟨rfl, rfl⟩)
    obtain ⟨v, hv⟩ : ∃ v, stepsE l = v := ⟨_, rfl⟩
    have HS0 := Lib.hid (HST.out v hv)
    have d0 : (v != 0) = true := by rw [bne_iff_ne, ← hv]; exact hs
    clear HST hs hA hm hv
    go_enter Try.func11, Try.ntmps11
    go_wp2_with (go_at_call 20; (with_reducible refine HS0.out.mono ?_); rintro e w1 ⟨rfl, hb1⟩; have HB1 := Lib.hid hb1; clear hb1)
    go_ret2
    exact ⟨ret_2 HS8.out.1.symm HS8.out.2.symm, HB1.out⟩
end Go.Proofs.Ytcjceecdcjjnfaa.Ck
