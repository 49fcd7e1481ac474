/- Walks: the zones of a bundle are checked, in the program and in the reference. -/
import Derived.Test.YthjckkcafhiomaaPdS
import Derived.Laws.Cover1
namespace Go.Proofs.Ythjckkcafhiomaa.Pd
open Go.RowKit

theorem nameValid_is (s : ByteArray) (v : Bool) (h : nmOk s = v) (w : World) (hs : s.size ≤ maxLen) : Calls Try.prog 33 #[.string s] w fun e w' => e = .returned (.bool v) ∧ Below w.heap.size w w' := by
  subst h; exact nameValid_any s w hs
theorem refName_is (s : ByteArray) (v : Bool) (h : nmOk s = v) (w : World) (hs : s.size ≤ maxLen) : Calls Try.prog 40 #[.string s] w fun e w' => e = .returned (.bool v) ∧ Below w.heap.size w w' := by
  subst h; exact refName_any s w hs
theorem ckZ_long {l : List ByteArray} (h : 64 < l.length) : ckZ l = 5 := by unfold ckZ; rw [if_pos h]
theorem ckZ_nm {l : List ByteArray} {k : Nat} (h : ¬ 64 < l.length) (hk : k < l.length) (h0 : fst0 (zAt l) k = 0) (hn : nmOk (l.getD k zs0) = false) : ckZ l = 8 := by
  have := fst0_hit (f := zAt l) (e := 8) h0 (by unfold zAt; rw [hn]; rfl) (by decide) hk
  unfold ckZ; rw [if_neg h, this]; rfl
theorem ckZ_od {l : List ByteArray} {k : Nat} (h : ¬ 64 < l.length) (hk : k + 1 < l.length) (hz : fst0 (zAt l) l.length = 0) (h0 : fst0 (oAt l) k = 0) (hn : sLt (l.getD k zs0) (l.getD (k + 1) zs0) = false) : ckZ l = 9 := by
  have := fst0_hit (f := oAt l) (e := 9) h0 (by unfold oAt; rw [hn]; rfl) (by decide) (n := l.length - 1) (by omega)
  unfold ckZ; rw [if_neg h, if_pos hz, this]
theorem ckZ_ok {l : List ByteArray} {k : Nat} (h : ¬ 64 < l.length) (hk : l.length ≤ k + 1) (hk2 : k + 1 ≤ max l.length 1) (hz : fst0 (zAt l) l.length = 0) (h0 : fst0 (oAt l) k = 0) : ckZ l = 0 := by
  unfold ckZ; rw [if_neg h, if_pos hz, show l.length - 1 = k by omega, h0]
set_option maxRecDepth 100000 in
set_option maxHeartbeats 8000000 in
theorem checkZones_any (A : Option Addr) (n c : Nat) (l : List ByteArray) (w : World) (hA : ZsR w A l) (hn : l.length = n) (h6 : n ≤ 8796093021952) :
    Calls Try.prog 45 #[.slice A n c] w fun e w' => e = .returned (.int .i64 (ckZ l)) ∧ Below w.heap.size w w' := by
  by_cases h64 : 64 < n
  · have d1 : decide (64 < (n : Int)) = true := decide_eq_true (by omega)
    rw [ckZ_long (by rw [hn]; exact h64)]
    clear hA hn h64
    go_enter Try.func45, Try.ntmps45
    go_wp2
    go_ret
    exact ⟨rfl, Below.refl _ _⟩
  · have d1 : decide (64 < (n : Int)) = false := decide_eq_false (by omega)
    have HA := Lib.hid hA; have HN := Lib.hid hn
    have H64 := Lib.hid (show ¬ 64 < l.length by rw [hn]; exact h64)
    clear hA hn
    go_enter Try.func45, Try.ntmps45
    go_wp2_with fail
    clear d1
    go_loopw [11] (fun iv wr => ∃ k : Nat, iv = .int .i64 k ∧ k ≤ n ∧ Below w.heap.size w wr ∧ Hid (fst0 (zAt l) k = 0)) (fun iv _ => n - (intOf iv).toNat)
    case atStart => exact ⟨0, rfl, by omega, Below.refl _ _, Lib.hid rfl⟩
    case round =>
      obtain ⟨k, rfl, hk, hb, HZ⟩ := hrel
      have hs := hb.size
      by_cases hlt : k < n
      · have hkl : k < l.length := by rw [HN.out]; exact hlt
        have hlt' : (k : Int) < (n : Int) := by omega
        obtain ⟨bk, off, rfl, hbl, g0, gs⟩ := HA.out k hkl
        have e0 := (hb.cell (p := ⟨bk, off + k, none⟩) hbl).trans g0
        obtain ⟨v, hv⟩ : ∃ v, nmOk (l.getD k zs0) = v := ⟨_, rfl⟩
        have HNM := Lib.hid (fun W => nameValid_is _ _ hv W gs)
        have HV := Lib.hid hv
        have HKL := Lib.hid hkl
        obtain ⟨x, hx⟩ : ∃ x, l.getD k zs0 = x := ⟨_, rfl⟩
        rw [hx] at e0 HNM
        clear g0 gs hv hkl hbl hx
        cases v
        · have HR := Lib.hid (ckZ_nm H64.out HKL.out HZ.out HV.out)
          go_wp2_with (go_at_call 33; (with_reducible refine (HNM.out _).mono ?_); rintro e w1 ⟨rfl, hb1⟩; have hb2 := hb.trans (hb1.mono hs))
          go_ret
          exact ⟨ret_i64 HR.out.symm, hb2⟩
        · have HZ2 := Lib.hid (fst0_next HZ.out (show zAt l k = 0 by unfold zAt; rw [HV.out]; rfl))
          go_wp2_with (go_at_call 33; (with_reducible refine (HNM.out _).mono ?_); rintro e w1 ⟨rfl, hb1⟩; have hb2 := hb.trans (hb1.mono hs); clear hb1)
          go_roundw
          case rel => exact ⟨k + 1, by go_num, by omega, hb2, HZ2⟩
          case measure => simp [intOf]; omega
      · obtain rfl : k = n := by omega
        have HZZ : Hid (fst0 (zAt l) l.length = 0) := Lib.hid (by rw [HN.out]; exact HZ.out)
        clear HZ
        go_wp2_with fail
        clear hlt
        go_loopw [5] (fun iv w9 => ∃ j : Nat, iv = .int .i64 ((j : Int) + 1) ∧ j + 1 ≤ max k 1 ∧ Below w.heap.size w w9 ∧ Hid (fst0 (oAt l) j = 0)) (fun iv _ => k + 1 - (intOf iv).toNat)
        case atStart => exact ⟨0, rfl, by omega, hb, Lib.hid rfl⟩
        case round =>
          obtain ⟨j, rfl, hj, hb9, HO⟩ := hrel
          by_cases hlt : j + 1 < k
          · have hj1 : j < l.length := by rw [HN.out]; omega
            have hj2 : j + 1 < l.length := by rw [HN.out]; omega
            have hlt' : (j : Int) + 1 < (k : Int) := by omega
            have hlt'' : (j : Int) < (k : Int) := by omega
            have hp : (0 : Int) ≤ (j : Int) + 1 := by omega
            have hw1 : IntKind.i64.wrap ((j : Int) + 1 - 1) = (j : Int) := by rw [show (j : Int) + 1 - 1 = (j : Int) by omega]; exact IntWalk.i64_in _ (by omega)
            have hw2 : IntKind.i64.wrap (j : Int) = (j : Int) := IntWalk.i64_in _ (by omega)
            have ht1 : ((j : Int) + 1).toNat = j + 1 := by omega
            obtain ⟨bk, off, rfl, hbl, g0, gs⟩ := HA.out j hj1
            obtain ⟨bk', off', hA', hbl', g0', gs'⟩ := HA.out (j + 1) hj2
            obtain ⟨rfl, rfl⟩ : bk = bk' ∧ off = off' := by injection hA' with h; injection h with h1 h2 h3; exact ⟨h1, h2⟩
            have e0 := (hb9.cell (p := ⟨bk, off + j, none⟩) hbl).trans g0
            have e1 := (hb9.cell (p := ⟨bk, off + (j + 1), none⟩) hbl).trans g0'
            obtain ⟨v, hv⟩ : ∃ v, sLt (l.getD j zs0) (l.getD (j + 1) zs0) = v := ⟨_, rfl⟩
            have hq : Op.bytesLess (l.getD j zs0).toList (l.getD (j + 1) zs0).toList = v := hv
            have HV := Lib.hid hv; have HJ := Lib.hid hj2
            obtain ⟨x, hx⟩ : ∃ x, l.getD j zs0 = x := ⟨_, rfl⟩
            obtain ⟨y, hy⟩ : ∃ y, l.getD (j + 1) zs0 = y := ⟨_, rfl⟩
            rw [hx] at e0 hq
            rw [hy] at e1 hq
            clear g0 gs g0' gs' hv hbl hbl' hx hy hA' hj1 hj2
            cases v
            · have HR := Lib.hid (ckZ_od H64.out HJ.out HZZ.out HO.out HV.out)
              go_wp2_with fail
              go_quiet (fail)
              go_wp2_with fail
              go_ret
              exact ⟨ret_i64 HR.out.symm, below_drewN hb9 _⟩
            · have HO2 := Lib.hid (fst0_next HO.out (show oAt l j = 0 by unfold oAt; rw [HV.out]; rfl))
              go_wp2_with fail
              go_quiet (fail)
              go_wp2_with fail
              go_roundw
              case rel => exact ⟨j + 1, by go_num, by omega, below_drewN hb9 _, HO2⟩
              case measure => simp [intOf]; omega
          · have hlt' : ¬ ((j : Int) + 1 < (k : Int)) := by omega
            have hlt'' : decide ((j : Int) + 1 < (k : Int)) = false := decide_eq_false hlt'
            have HR := Lib.hid (ckZ_ok H64.out (show l.length ≤ j + 1 by rw [HN.out]; omega) (by rw [HN.out]; exact hj) HZZ.out HO.out)
            go_wp2_with fail
            go_ret
            exact ⟨ret_i64 HR.out.symm, hb9⟩
set_option maxRecDepth 100000 in
set_option maxHeartbeats 8000000 in
theorem refZones_any (A : Option Addr) (n c : Nat) (l : List ByteArray) (w : World) (hA : ZsR w A l) (hn : l.length = n) (h6 : n ≤ 8796093021952) :
    Calls Try.prog 48 #[.slice A n c] w fun e w' => e = .returned (.int .i64 (ckZ l)) ∧ Below w.heap.size w w' := by
  by_cases h64 : 64 < n
  · have d1 : decide (64 < (n : Int)) = true := decide_eq_true (by omega)
    rw [ckZ_long (by rw [hn]; exact h64)]
    clear hA hn h64
    go_enter Try.func48, Try.ntmps48
    go_wp2
    go_ret
    exact ⟨rfl, Below.refl _ _⟩
  · have d1 : decide (64 < (n : Int)) = false := decide_eq_false (by omega)
    have HA := Lib.hid hA; have HN := Lib.hid hn
    have H64 := Lib.hid (show ¬ 64 < l.length by rw [hn]; exact h64)
    clear hA hn
    go_enter Try.func48, Try.ntmps48
    go_wp2_with fail
    clear d1
    go_loopw [3] (fun iv wr => ∃ k : Nat, iv = .int .i64 k ∧ k ≤ n ∧ Below w.heap.size w wr ∧ Hid (fst0 (zAt l) k = 0)) (fun iv _ => n - (intOf iv).toNat)
    case atStart => exact ⟨0, rfl, by omega, Below.refl _ _, Lib.hid rfl⟩
    case round =>
      obtain ⟨k, rfl, hk, hb, HZ⟩ := hrel
      have hs := hb.size
      by_cases hlt : k < n
      · have hkl : k < l.length := by rw [HN.out]; exact hlt
        have hlt' : (k : Int) < (n : Int) := by omega
        obtain ⟨bk, off, rfl, hbl, g0, gs⟩ := HA.out k hkl
        have e0 := (hb.cell (p := ⟨bk, off + k, none⟩) hbl).trans g0
        obtain ⟨v, hv⟩ : ∃ v, nmOk (l.getD k zs0) = v := ⟨_, rfl⟩
        have HNM := Lib.hid (fun W => refName_is _ _ hv W gs)
        have HV := Lib.hid hv
        have HKL := Lib.hid hkl
        obtain ⟨x, hx⟩ : ∃ x, l.getD k zs0 = x := ⟨_, rfl⟩
        rw [hx] at e0 HNM
        clear g0 gs hv hkl hbl hx
        cases v
        · have HR := Lib.hid (ckZ_nm H64.out HKL.out HZ.out HV.out)
          go_wp2_with (go_at_call 40; (with_reducible refine (HNM.out _).mono ?_); rintro e w1 ⟨rfl, hb1⟩; have hb2 := hb.trans (hb1.mono hs))
          go_ret
          exact ⟨ret_i64 HR.out.symm, hb2⟩
        · have HZ2 := Lib.hid (fst0_next HZ.out (show zAt l k = 0 by unfold zAt; rw [HV.out]; rfl))
          go_wp2_with (go_at_call 40; (with_reducible refine (HNM.out _).mono ?_); rintro e w1 ⟨rfl, hb1⟩; have hb2 := hb.trans (hb1.mono hs); clear hb1)
          go_roundw
          case rel => exact ⟨k + 1, by go_num, by omega, hb2, HZ2⟩
          case measure => simp [intOf]; omega
      · obtain rfl : k = n := by omega
        have HZZ : Hid (fst0 (zAt l) l.length = 0) := Lib.hid (by rw [HN.out]; exact HZ.out)
        clear HZ
        go_wp2_with fail
        clear hlt
        go_loopw [4] (fun iv w9 => ∃ j : Nat, iv = .int .i64 ((j : Int) + 1) ∧ j + 1 ≤ max k 1 ∧ Below w.heap.size w w9 ∧ Hid (fst0 (oAt l) j = 0)) (fun iv _ => k + 1 - (intOf iv).toNat)
        case atStart => exact ⟨0, rfl, by omega, hb, Lib.hid rfl⟩
        case round =>
          obtain ⟨j, rfl, hj, hb9, HO⟩ := hrel
          by_cases hlt : j + 1 < k
          · have hj1 : j < l.length := by rw [HN.out]; omega
            have hj2 : j + 1 < l.length := by rw [HN.out]; omega
            have hlt' : (j : Int) + 1 < (k : Int) := by omega
            have hlt'' : (j : Int) < (k : Int) := by omega
            have hp : (0 : Int) ≤ (j : Int) + 1 := by omega
            have hw1 : IntKind.i64.wrap ((j : Int) + 1 - 1) = (j : Int) := by rw [show (j : Int) + 1 - 1 = (j : Int) by omega]; exact IntWalk.i64_in _ (by omega)
            have hw2 : IntKind.i64.wrap (j : Int) = (j : Int) := IntWalk.i64_in _ (by omega)
            have ht1 : ((j : Int) + 1).toNat = j + 1 := by omega
            obtain ⟨bk, off, rfl, hbl, g0, gs⟩ := HA.out j hj1
            obtain ⟨bk', off', hA', hbl', g0', gs'⟩ := HA.out (j + 1) hj2
            obtain ⟨rfl, rfl⟩ : bk = bk' ∧ off = off' := by injection hA' with h; injection h with h1 h2 h3; exact ⟨h1, h2⟩
            have e0 := (hb9.cell (p := ⟨bk, off + j, none⟩) hbl).trans g0
            have e1 := (hb9.cell (p := ⟨bk, off + (j + 1), none⟩) hbl).trans g0'
            obtain ⟨v, hv⟩ : ∃ v, sLt (l.getD j zs0) (l.getD (j + 1) zs0) = v := ⟨_, rfl⟩
            have hq : Op.bytesLess (l.getD j zs0).toList (l.getD (j + 1) zs0).toList = v := hv
            have HV := Lib.hid hv; have HJ := Lib.hid hj2
            obtain ⟨x, hx⟩ : ∃ x, l.getD j zs0 = x := ⟨_, rfl⟩
            obtain ⟨y, hy⟩ : ∃ y, l.getD (j + 1) zs0 = y := ⟨_, rfl⟩
            rw [hx] at e0 hq
            rw [hy] at e1 hq
            clear g0 gs g0' gs' hv hbl hbl' hx hy hA' hj1 hj2
            cases v
            · have HR := Lib.hid (ckZ_od H64.out HJ.out HZZ.out HO.out HV.out)
              go_wp2_with fail
              go_quiet (fail)
              go_wp2_with fail
              go_ret
              exact ⟨ret_i64 HR.out.symm, below_drewN hb9 _⟩
            · have HO2 := Lib.hid (fst0_next HO.out (show oAt l j = 0 by unfold oAt; rw [HV.out]; rfl))
              go_wp2_with fail
              go_quiet (fail)
              go_wp2_with fail
              go_roundw
              case rel => exact ⟨j + 1, by go_num, by omega, below_drewN hb9 _, HO2⟩
              case measure => simp [intOf]; omega
          · have hlt' : ¬ ((j : Int) + 1 < (k : Int)) := by omega
            have hlt'' : decide ((j : Int) + 1 < (k : Int)) = false := decide_eq_false hlt'
            have HR := Lib.hid (ckZ_ok H64.out (show l.length ≤ j + 1 by rw [HN.out]; omega) (by rw [HN.out]; exact hj) HZZ.out HO.out)
            go_wp2_with fail
            go_ret
            exact ⟨ret_i64 HR.out.symm, hb9⟩
end Go.Proofs.Ythjckkcafhiomaa.Pd
