/- Walk: the price of units for a valid ladder. -/
import Derived.Test.YtcjceecdcjjnfaaCkR
import Derived.Test.YtcjceecdcjjnfaaLdM
import Derived.Test.YtcjceecdcjjnfaaLdSc
namespace Go.Proofs.Ytcjceecdcjjnfaa.Ck
open Go Go.Lib Go.RowKit Go.Proofs.Ytcjceecdcjjnfaa

theorem blkV_eq {p b m : Nat} (h : p * b = m) : blkV p b = (if m ≤ 1125899906842624 then (m : Int) else 0) ∧ blkE p b = (if m ≤ 1125899906842624 then 0 else 6) := by
  subst h; exact ⟨rfl, rfl⟩
theorem ret_2 {a b c d : Int} (h : a = b) (h2 : c = d) : Ending.returned (.tuple #[.int .i64 a, .int .i64 c]) = .returned (.tuple #[.int .i64 b, .int .i64 d]) := by rw [h, h2]
theorem ceil_int {u q : Int} (hu : 0 ≤ u) (hq : 1 ≤ q) : (u + q - 1).tdiv q = (ceilN u.toNat q.toNat : Int) := by
  unfold ceilN
  obtain ⟨a, rfl⟩ := Int.eq_ofNat_of_zero_le hu
  obtain ⟨b, rfl⟩ := Int.eq_ofNat_of_zero_le (show 0 ≤ q by omega)
  rw [show ((a : Int) + (b : Int) - 1) = ((a + b - 1 : Nat) : Int) by omega, ← Int.ofNat_tdiv]
  rfl

theorem below_dq {B : Nat} {a w : World} (h : Below B a w) (n : Nat) : Below B a (w.drewN n) := ⟨h.os, h.tape, h.output, h.size, h.block⟩
theorem add_is {s c : Nat} {v e : Int} (hs : s ≤ 1125899906842624) (hc : c ≤ 1125899906842624) (hv : (if s + c ≤ 1125899906842624 then ((s + c : Nat) : Int) else 0) = v) (he : (if s + c ≤ 1125899906842624 then (0 : Int) else 6) = e) (w : World) :
    Calls Try.prog 30 #[.int .i64 (s : Int), .int .i64 (c : Int)] w fun x w' => x = .returned (.tuple #[.int .i64 v, .int .i64 e]) ∧ w = w' := by
  subst hv he
  refine (add_any (s : Int) (c : Int) w (by omega) (by omega)).mono fun x w' ⟨h1, h2⟩ => ⟨?_, h2⟩
  rw [h1]
  have a1 : okA (s : Int) = true := okA_iff.2 (by omega)
  have a2 : okA (c : Int) = true := okA_iff.2 (by omega)
  by_cases h : s + c ≤ 1125899906842624
  · have a3 : okA ((s : Int) + (c : Int)) = true := okA_iff.2 (by omega)
    rw [(add_yes a1 a2 a3).1, (add_yes a1 a2 a3).2, if_pos h, if_pos h]; exact ret_2 (by omega) rfl
  · have a3 : okA ((s : Int) + (c : Int)) = false := okA_no.2 (by omega)
    rw [(add_no3 a3).1, (add_no3 a3).2, if_neg h, if_neg h]

set_option maxRecDepth 100000 in
set_option maxHeartbeats 8000000 in
theorem price_any (A : Option Addr) (m c : Nat) (l : List Sp) (n : Int) (w : World) (hA : SpR w A l) (hm : l.length = m) (hc : m ≤ c) (hcm : c ≤ maxLen) (hl : stepsE l = 0) :
    Calls Try.prog 19 #[.slice A m c, .int .i64 n] w fun e w' => e = .returned (.tuple #[.int .i64 (prV l n), .int .i64 (prE l n)]) ∧ Below w.heap.size w w' := by
  have OK := ok_of hl
  cases hv : inB n 0 1099511627776
  · have HW := Lib.hid (within_is hv)
    have he : prE l n = 6 := by unfold prE; rw [if_pos hv]
    have HR : Hid (prV l n = 0 ∧ prE l n = 6) := Lib.hid ⟨prV_six (by rw [he]; decide), he⟩
    clear hA hm hl OK hv he
    go_enter Try.func19, Try.ntmps19
    go_wp2_with (go_at_call 23; (with_reducible refine (HW.out _).mono ?_); rintro e w1 ⟨rfl, rfl⟩)
    go_ret2
    exact ⟨ret_2 HR.out.1.symm HR.out.2.symm, Below.refl _ _⟩
  · have hn := inR_iff.1 hv
    obtain ⟨N, rfl⟩ := Int.eq_ofNat_of_zero_le hn.1
    have HW := Lib.hid (within_is hv)
    have HP : Hid (prE l (N : Int) = if 1125899906842624 < prcN l N then 6 else 0) := Lib.hid (by unfold prE; rw [hv, if_neg (by decide)]; rfl)
    have hN : N ≤ 1099511627776 := by omega
    have HA := Lib.hid hA; have HM := Lib.hid hm; have HOK := Lib.hid OK
    have hm1 : 1 ≤ m := by rw [← hm]; exact OK.pos
    have hm64 : m ≤ 64 := by rw [← hm]; exact OK.len
    clear hA hm hl OK hv hn
    go_enter Try.func19, Try.ntmps19
    go_wp2_with (go_at_call 23; (with_reducible refine (HW.out _).mono ?_); rintro e w1 ⟨rfl, rfl⟩)
    clear HW
    go_loopw [6, 7, 19] (fun s6 s7 s19 wr => ∃ (k s : Nat) (b : Int), s19 = .int .i64 k ∧ s6 = .int .i64 s ∧ s7 = .int .i64 b ∧ k ≤ m ∧ s ≤ 1125899906842624 ∧ Hid (Below w.heap.size w wr) ∧ Hid (k < m → prv l k = b) ∧ Hid (s + sumF (cstN l N) k (m - k) = prcN l N)) (fun _ _ s19 _ => m - (RowKit.intOf s19).toNat)
    case atStart => exact ⟨0, 0, 0, rfl, rfl, rfl, by omega, by omega, Lib.hid (Below.refl _ _), Lib.hid (fun _ => rfl), Lib.hid (by unfold prcN; rw [HM.out]; simp)⟩
    case round =>
      obtain ⟨k, s, b, rfl, rfl, rfl, hk, hs, HB, HV, HS⟩ := hrel
      by_cases hlt : k < m
      · have hkl : k < l.length := by rw [HM.out]; exact hlt
        have hlt' : (k : Int) < (m : Int) := by omega
        obtain ⟨bk, off, hAe, hbl, g0, g1, g2⟩ := HA.out.below HB.out rfl k hkl
        subst hAe
        obtain ⟨⟨up, qu, pr⟩, hp⟩ : ∃ r, l.getD k sp0 = r := ⟨_, rfl⟩
        have hup := HOK.out.up0 k hkl; have hqu := HOK.out.qu k hkl; have hpr := HOK.out.pr k hkl
        have hbv := HV.out hlt
        have hb0 := HOK.out.prv0 (i := k) (by omega)
        rw [hbv] at hb0
        have hsum := HS.out
        rw [sumF_next hlt] at hsum
        have hcst : cstN l N k = pr.toNat * ceilN (unN l N k) qu.toNat := by unfold cstN; rw [hp]
        have hun : unN l N k = ((if k + 1 = m then (N : Int) else min (N : Int) up) - b).toNat := by unfold unN; rw [hp, HM.out, hbv]
        rw [hp] at g0 g1 g2 hup hqu hpr
        simp only at g0 g1 g2 hup hqu hpr
        have hpv : k + 1 < m → prv l (k + 1) = up := by intro _; unfold prv; rw [if_neg (by omega), show k + 1 - 1 = k by omega, hp]
        obtain ⟨u, hu⟩ : ∃ u, unN l N k = u := ⟨_, rfl⟩
        rw [hu] at hcst hun
        have hu2 : u ≤ 1099511627776 := by split at hun <;> omega
        obtain ⟨p, rfl⟩ := Int.eq_ofNat_of_zero_le hpr.1
        obtain ⟨q, rfl⟩ := Int.eq_ofNat_of_zero_le (show 0 ≤ qu by omega)
        simp only [Int.toNat_natCast] at hcst
        obtain ⟨B, hBv⟩ : ∃ B, ceilN u q = B := ⟨_, rfl⟩
        have hB2 : B ≤ 1099511627776 := by have := ceilN_le (u := u) (q := q) (by omega); omega
        have hceil : ((u : Int) + (q : Int) - 1).tdiv (q : Int) = (B : Int) := by
          have := ceil_int (u := (u : Int)) (q := (q : Int)) (by omega) (by omega)
          rw [this, Int.toNat_natCast, Int.toNat_natCast, hBv]
        rw [hBv] at hcst
        obtain ⟨C, hC⟩ : ∃ C, p * B = C := ⟨_, rfl⟩
        rw [hcst, hC] at hsum
        have hscale := fun wx => blocks_any p B (by omega) hB2 wx
        rw [(blkV_eq hC).1, (blkV_eq hC).2] at hscale
        have HSC := Lib.hid hscale
        have HSUM := Lib.hid hsum; have HPV := Lib.hid hpv; have HUN := Lib.hid hun; have HCE := Lib.hid hceil
        obtain ⟨W, hW⟩ : ∃ W, wr.alloc (.cells #[.int .i64 up, .int .i64 q, .int .i64 p] 37) = W := ⟨_, rfl⟩
        obtain ⟨g, hg⟩ : ∃ g, wr.heap.size = g := ⟨_, rfl⟩
        have hB : Blk W g 37 #[.int .i64 up, .int .i64 q, .int .i64 p] := hW ▸ hg ▸ Blk.new wr _ _
        have c0 := hB.cell 0; have c1 := hB.cell 1; have c2 := hB.cell 2
        have hq0 : ((q : Int) == 0) = false := by rw [beq_eq_false_iff_ne]; omega
        have HBW : Hid (Below w.heap.size w W) := Lib.hid (hW ▸ HB.out.alloc HB.out.size _)
        clear hp hcst hun hsum hpv hscale hceil hC hBv hu hB HS HV HB hkl hbl hbv
        by_cases hlast : k + 1 = m
        · have dl : ((k : Int) == (m : Int) - 1) = true := by rw [beq_iff_eq]; omega
          have hmx : max 0 ((N : Int) - b) = (u : Int) := by have := HUN.out; rw [if_pos hlast] at this; omega
          have HMX := Lib.hid hmx
          clear hmx
          go_wp2_with fail
          simp only [HMX.out]
          have hqz : ¬ q = 0 := by omega
          have hce : IntKind.i64.wrap ((IntKind.i64.wrap (IntKind.i64.wrap ((u : Int) + (q : Int)) - 1)).tdiv (q : Int)) = (B : Int) := by
            have h1 : IntKind.i64.wrap ((u : Int) + (q : Int)) = (u : Int) + (q : Int) := by simp only [IntKind.wrap_i64]; omega
            have h2 : IntKind.i64.wrap ((u : Int) + (q : Int) - 1) = (u : Int) + (q : Int) - 1 := by simp only [IntKind.wrap_i64]; omega
            rw [h1, h2, HCE.out]; simp only [IntKind.wrap_i64]; omega
          clear hW hg hq0
          by_cases hCm : C ≤ 1125899906842624
          · have HSC1 : Hid (∀ wx, Calls Try.prog 29 #[.int .i64 (p : Int), .int .i64 (B : Int), .int .i64 1] wx fun e w' => e = .returned (.tuple #[.int .i64 (C : Int), .int .i64 0]) ∧ ∃ k, w' = wx.drewN k) := Lib.hid (fun wx => by have := HSC.out wx; rw [if_pos hCm, if_pos hCm] at this; exact this)
            clear HSC
            refine wp_region_quiet_lit (by kernel_rfl) (by kernel_rfl) ?_
            iterate 10 (quiet_step (fail))
            quiet_step ((go_at_call 29; exact Calls.quiet_of (HSC1.out _)))
            iterate 5 (quiet_step (fail))
            refine wpQuiet_nil ?_
            intro W4 hW4
            obtain ⟨nq, hW4⟩ := hW4
            have HB4 : Hid (Below w.heap.size w W4) := Lib.hid (hW4 ▸ below_dq HBW.out _)
            clear hW4 c0 c1 c2 hce hqz
            by_cases hT : s + C ≤ 1125899906842624
            · have HAD := Lib.hid (add_is (s := s) (c := C) (by omega) (by omega) (v := ((s + C : Nat) : Int)) (e := 0) (if_pos hT) (if_pos hT))
              go_wp2_with (go_at_call 30; (with_reducible refine (HAD.out _).mono ?_); rintro e w1 ⟨rfl, rfl⟩)
              go_roundw
              case rel => exact ⟨k + 1, s + C, _, by go_num, by go_num, rfl, by omega, hT, HB4, Lib.hid (fun h => by omega), Lib.hid (by have := HSUM.out; omega)⟩
              case measure => simp [RowKit.intOf]; omega
            · have HAD := Lib.hid (add_is (s := s) (c := C) (by omega) (by omega) (v := 0) (e := 6) (if_neg hT) (if_neg hT))
              have HR : Hid (prV l (N : Int) = 0 ∧ prE l (N : Int) = 6) := Lib.hid (by
                have h6 : prE l (N : Int) = 6 := by rw [HP.out, if_pos (by have := HSUM.out; omega)]
                exact ⟨prV_six (by rw [h6]; decide), h6⟩)
              go_wp2_with (go_at_call 30; (with_reducible refine (HAD.out _).mono ?_); rintro e w1 ⟨rfl, rfl⟩)
              go_ret2
              exact ⟨ret_2 HR.out.1.symm HR.out.2.symm, HB4.out⟩
          · have HSC1 : Hid (∀ wx, Calls Try.prog 29 #[.int .i64 (p : Int), .int .i64 (B : Int), .int .i64 1] wx fun e w' => e = .returned (.tuple #[.int .i64 0, .int .i64 6]) ∧ ∃ k, w' = wx.drewN k) := Lib.hid (fun wx => by have := HSC.out wx; rw [if_neg hCm, if_neg hCm] at this; exact this)
            clear HSC
            have HR : Hid (prV l (N : Int) = 0 ∧ prE l (N : Int) = 6) := Lib.hid (by
              have h6 : prE l (N : Int) = 6 := by rw [HP.out, if_pos (by have := HSUM.out; omega)]
              exact ⟨prV_six (by rw [h6]; decide), h6⟩)
            refine wp_region_quiet_lit (by kernel_rfl) (by kernel_rfl) ?_
            iterate 10 (quiet_step (fail))
            quiet_step ((go_at_call 29; exact Calls.quiet_of (HSC1.out _)))
            iterate 5 (quiet_step (fail))
            refine wpQuiet_nil ?_
            intro W4 hW4
            obtain ⟨nq, hW4⟩ := hW4
            have HB4 : Hid (Below w.heap.size w W4) := Lib.hid (hW4 ▸ below_dq HBW.out _)
            clear hW4 c0 c1 c2 hce hqz
            go_wp2_with fail
            go_ret2
            exact ⟨ret_2 HR.out.1.symm HR.out.2.symm, HB4.out⟩
        · have dl : ((k : Int) == (m : Int) - 1) = false := by rw [beq_eq_false_iff_ne]; omega
          have hmx : max 0 (min (N : Int) up - b) = (u : Int) := by have := HUN.out; rw [if_neg hlast] at this; omega
          have HMX := Lib.hid hmx
          clear hmx
          go_wp2_with fail
          simp only [HMX.out]
          have hqz : ¬ q = 0 := by omega
          have hce : IntKind.i64.wrap ((IntKind.i64.wrap (IntKind.i64.wrap ((u : Int) + (q : Int)) - 1)).tdiv (q : Int)) = (B : Int) := by
            have h1 : IntKind.i64.wrap ((u : Int) + (q : Int)) = (u : Int) + (q : Int) := by simp only [IntKind.wrap_i64]; omega
            have h2 : IntKind.i64.wrap ((u : Int) + (q : Int) - 1) = (u : Int) + (q : Int) - 1 := by simp only [IntKind.wrap_i64]; omega
            rw [h1, h2, HCE.out]; simp only [IntKind.wrap_i64]; omega
          clear hW hg hq0
          by_cases hCm : C ≤ 1125899906842624
          · have HSC1 : Hid (∀ wx, Calls Try.prog 29 #[.int .i64 (p : Int), .int .i64 (B : Int), .int .i64 1] wx fun e w' => e = .returned (.tuple #[.int .i64 (C : Int), .int .i64 0]) ∧ ∃ k, w' = wx.drewN k) := Lib.hid (fun wx => by have := HSC.out wx; rw [if_pos hCm, if_pos hCm] at this; exact this)
            clear HSC
            refine wp_region_quiet_lit (by kernel_rfl) (by kernel_rfl) ?_
            iterate 10 (quiet_step (fail))
            quiet_step ((go_at_call 29; exact Calls.quiet_of (HSC1.out _)))
            iterate 5 (quiet_step (fail))
            refine wpQuiet_nil ?_
            intro W4 hW4
            obtain ⟨nq, hW4⟩ := hW4
            have HB4 : Hid (Below w.heap.size w W4) := Lib.hid (hW4 ▸ below_dq HBW.out _)
            clear hW4 c0 c1 c2 hce hqz
            by_cases hT : s + C ≤ 1125899906842624
            · have HAD := Lib.hid (add_is (s := s) (c := C) (by omega) (by omega) (v := ((s + C : Nat) : Int)) (e := 0) (if_pos hT) (if_pos hT))
              go_wp2_with (go_at_call 30; (with_reducible refine (HAD.out _).mono ?_); rintro e w1 ⟨rfl, rfl⟩)
              go_roundw
              case rel => exact ⟨k + 1, s + C, _, by go_num, by go_num, rfl, by omega, hT, HB4, Lib.hid (fun h => HPV.out h), Lib.hid (by have := HSUM.out; omega)⟩
              case measure => simp [RowKit.intOf]; omega
            · have HAD := Lib.hid (add_is (s := s) (c := C) (by omega) (by omega) (v := 0) (e := 6) (if_neg hT) (if_neg hT))
              have HR : Hid (prV l (N : Int) = 0 ∧ prE l (N : Int) = 6) := Lib.hid (by
                have h6 : prE l (N : Int) = 6 := by rw [HP.out, if_pos (by have := HSUM.out; omega)]
                exact ⟨prV_six (by rw [h6]; decide), h6⟩)
              go_wp2_with (go_at_call 30; (with_reducible refine (HAD.out _).mono ?_); rintro e w1 ⟨rfl, rfl⟩)
              go_ret2
              exact ⟨ret_2 HR.out.1.symm HR.out.2.symm, HB4.out⟩
          · have HSC1 : Hid (∀ wx, Calls Try.prog 29 #[.int .i64 (p : Int), .int .i64 (B : Int), .int .i64 1] wx fun e w' => e = .returned (.tuple #[.int .i64 0, .int .i64 6]) ∧ ∃ k, w' = wx.drewN k) := Lib.hid (fun wx => by have := HSC.out wx; rw [if_neg hCm, if_neg hCm] at this; exact this)
            clear HSC
            have HR : Hid (prV l (N : Int) = 0 ∧ prE l (N : Int) = 6) := Lib.hid (by
              have h6 : prE l (N : Int) = 6 := by rw [HP.out, if_pos (by have := HSUM.out; omega)]
              exact ⟨prV_six (by rw [h6]; decide), h6⟩)
            refine wp_region_quiet_lit (by kernel_rfl) (by kernel_rfl) ?_
            iterate 10 (quiet_step (fail))
            quiet_step ((go_at_call 29; exact Calls.quiet_of (HSC1.out _)))
            iterate 5 (quiet_step (fail))
            refine wpQuiet_nil ?_
            intro W4 hW4
            obtain ⟨nq, hW4⟩ := hW4
            have HB4 : Hid (Below w.heap.size w W4) := Lib.hid (hW4 ▸ below_dq HBW.out _)
            clear hW4 c0 c1 c2 hce hqz
            go_wp2_with fail
            go_ret2
            exact ⟨ret_2 HR.out.1.symm HR.out.2.symm, HB4.out⟩
      · obtain rfl : k = m := by omega
        have hs2 : s = prcN l N := by have := HS.out; rw [sumF_end] at this; omega
        have HR : Hid (prV l (N : Int) = (s : Int) ∧ prE l (N : Int) = 0) := Lib.hid (by
          have h0 : prE l (N : Int) = 0 := by rw [HP.out, if_neg (by omega)]
          refine ⟨?_, h0⟩
          rw [prV_zero h0, hs2]; rfl)
        clear hs2 HS HV
        go_wp2_with fail
        go_ret2
        exact ⟨ret_2 HR.out.1.symm HR.out.2.symm, HB.out⟩
end Go.Proofs.Ytcjceecdcjjnfaa.Ck
