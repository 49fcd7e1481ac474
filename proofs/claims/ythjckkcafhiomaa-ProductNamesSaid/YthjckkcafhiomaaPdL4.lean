/- Walk of the law on Names. -/
import Derived.Test.YthjckkcafhiomaaPdL2
namespace Go.Proofs.Ythjckkcafhiomaa
open Go.RowKit Pd

namespace Pd
theorem names_lt {l : List Pr} (h : asc l = true) (t : Int) {j : Nat} (hj : j + 1 < (namesP l t).length) : Op.bytesLess ((namesP l t).getD j zs0).toList ((namesP l t).getD (j + 1) zs0).toList = true := by
  have := List.pairwise_iff_getElem.1 (namesP_up h t) j (j + 1) (by omega) hj (by omega)
  simpa [sLt, List.getD, List.getElem?_eq_getElem hj, List.getElem?_eq_getElem (show j < (namesP l t).length by omega)] using this
theorem names_at (l : List Pr) (t : Int) {k : Nat} (hk : k < (namesP l t).length) : (verA l ((namesP l t).getD k zs0) t).isSome = true := by
  rw [← names_has, hasT_iff]
  have : (namesP l t).getD k zs0 = (namesP l t)[k] := by simp [List.getD, List.getElem?_eq_getElem hk]
  rw [this]
  exact List.getElem_mem _
end Pd
set_option maxRecDepth 100000 in
set_option maxHeartbeats 16000000 in
theorem walkProductNames (A : Option Addr) (n c : Nat) (l : List Pr) (t : Int) (w : World) (hA : PrR w A l) (hn : l.length = n) (hc : n ≤ c) (hm : c ≤ maxLen) :
    Calls Try.prog 7 #[.slice A n c, .int .i64 t] w fun e w' => e = .returned (.bool true) ∧ Below w.heap.size w w' := by
  obtain ⟨v, hv⟩ : ∃ v, fewB l = v := ⟨_, rfl⟩
  have HF := Lib.hid (few_is A n c l v hv w hA hn hc hm)
  have HV := Lib.hid hv; have HA := Lib.hid hA; have HN := Lib.hid hn
  clear hA hn hc hm hv
  cases v
  · go_enter Try.func7, Try.ntmps7
    go_wp2_with (first
      | (go_at_call 8; (with_reducible refine HF.out.mono ?_); rintro e w1 ⟨rfl, rfl⟩)
      | (go_at_call 9; (with_reducible refine (awake_any _).mono ?_); rintro e w1 ⟨rfl, hb1⟩))
    go_ret
    exact ⟨rfl, hb1⟩
  · have hle : n ≤ 1000000 := by have := few_len HV.out; have := HN.out; omega
    obtain ⟨u, hu⟩ : ∃ u, asc l = u := ⟨_, rfl⟩
    have HAS := Lib.hid (fun (W : World) (h : PrR W A l) => asc_is A n c l u hu W h HN.out hle)
    have HU := Lib.hid hu
    clear hu
    cases u
    · go_enter Try.func7, Try.ntmps7
      go_wp2_with (first
        | (go_at_call 8; (with_reducible refine HF.out.mono ?_); rintro e w1 ⟨rfl, rfl⟩)
        | (go_at_call 12; (with_reducible refine (HAS.out _ HA.out).mono ?_); rintro e w1 ⟨rfl, hb1⟩; have HB1 := Lib.hid hb1; clear hb1)
        | (go_at_call 9; (with_reducible refine (awake_any _).mono ?_); rintro e w2 ⟨rfl, hb2⟩; have HB2 := Lib.hid (HB1.out.trans (hb2.mono HB1.out.size)); clear hb2))
      go_ret
      exact ⟨rfl, HB2.out⟩
    · have hsm : ∀ p ∈ l, p.n ≤ 1000000 := fun p hp => by have := few_mem HV.out p hp; omega
      have HNL := Lib.hid (fun (j : Nat) (h : j + 1 < (namesP l t).length) => names_lt HU.out t h)
      have HNT := Lib.hid (fun (k : Nat) (h : k < (namesP l t).length) => names_at l t h)
      have HNH := Lib.hid (fun x => names_has l t x)
      have hNle := namesP_len l t
      obtain ⟨Ls, hLs⟩ : ∃ Ls, namesP l t = Ls := ⟨_, rfl⟩
      obtain ⟨N, hN⟩ : ∃ N, Ls.length = N := ⟨_, rfl⟩
      have HNA := Lib.hid (fun (W : World) (h : PrR W A l) => names_is A n c l t Ls hLs N hN W h HN.out hle)
      rw [hLs] at HNL HNT HNH hNle
      have HAT := Lib.hid (fun (x : ByteArray) (hs : Bool) (hhs : (verA l x t).isSome = hs) (W : World) (h : PrR W A l) => at_uni A n c l x t _ rfl hs hhs W h HN.out hle hsm)
      have hNl : N ≤ 1000000 := by rw [hN, HN.out] at hNle; omega
      have HLN := Lib.hid (show Ls.length = N ∧ N ≤ maxLen from ⟨hN, by unfold maxLen; omega⟩)
      clear hLs hN hsm hNle
      go_enter Try.func7, Try.ntmps7
      go_wp2_with (first
        | (go_at_call 8; (with_reducible refine HF.out.mono ?_); rintro e w1 ⟨rfl, rfl⟩)
        | (go_at_call 12; (with_reducible refine (HAS.out _ HA.out).mono ?_); rintro e w1 ⟨rfl, hb1⟩; have HB1 := Lib.hid hb1; clear hb1)
        | (go_at_call 17; (with_reducible refine (HNA.out _ (HA.out.below HB1.out)).mono ?_); rintro e w2 ⟨B2, m2, rfl, hz2, hb2⟩; have HB2 := Lib.hid (HB1.out.trans (hb2.mono HB1.out.size)); have HZ2 := Lib.hid hz2; clear hb2 hz2))
      go_loopw [6] (fun iv wr => ∃ k : Nat, iv = .int .i64 k ∧ k ≤ N ∧ Hid (Below w2.heap.size w2 wr)) (fun iv _ => N - (intOf iv).toNat)
      case atStart => exact ⟨0, rfl, by omega, Lib.hid (Below.refl _ _)⟩
      case round =>
        obtain ⟨k, rfl, hk, HB⟩ := hrel
        by_cases hlt : k < N
        · have hkl : k < Ls.length := by rw [HLN.out.1]; exact hlt
          have hlt' : (k : Int) < (N : Int) := by omega
          have HKL := Lib.hid hkl
          obtain ⟨bk, off, hBk, hbl, g0, -⟩ := HZ2.out k hkl
          subst hBk
          have e0 := (HB.out.cell (p := ⟨bk, off + k, none⟩) hbl).trans g0
          have HCE := Lib.hid (fun (W : World) (hb : Below w2.heap.size w2 W) => (hb.cell (p := ⟨bk, off + k, none⟩) hbl).trans g0)
          have hat := HNT.out k hkl
          have HLT := Lib.hid (fun (j : Nat) (h : k = j + 1) => (h ▸ HNL.out j (by omega) : Op.bytesLess (Ls.getD j zs0).toList (Ls.getD k zs0).toList = true))
          obtain ⟨x, hx⟩ : ∃ x, Ls.getD k zs0 = x := ⟨_, rfl⟩
          rw [hx] at e0 hat HLT HCE
          have HA9 := Lib.hid (HAT.out x true hat wr (HA.out.below (HB2.out.trans (HB.out.mono HB2.out.size))))
          clear g0 hat hx hkl hbl
          have harm : True := trivial
          by_cases hk0 : k = 0
          · have hk1 : ¬ ((0 : Int) < (k : Int)) := by omega
            have hk2 : decide ((0 : Int) < (k : Int)) = false := decide_eq_false hk1
            have hk3 : ¬ (0 < k) := by omega
            have hk4 : decide (0 < k) = false := decide_eq_false hk3
            clear hk0
            go_wp2_with (go_at_call 13; (with_reducible refine HA9.out.mono ?_); rintro e w3 ⟨p', rfl, -, -, hb3⟩; have HB3 := Lib.hid (HB.out.trans (hb3.mono HB.out.size)); clear hb3; obtain ⟨an, afr, afe, aca, apr, aA, aN, aC, abs⟩ := p'; simp only [Pr.cells]; obtain ⟨W4, hW4⟩ : ∃ W4, w3.alloc (.cells #[.string an, .int .i64 afr, .int .i64 afe, .string aca, .bool apr, .slice aA aN aC] 29) = W4 := ⟨_, rfl⟩; have HB4 := Lib.hid (HB3.out.trans ((hW4 ▸ below_one w3 _ : Below w3.heap.size w3 W4).mono HB3.out.size)))
            refine wp_region_quiet_below (by kernel_rfl) (by kernel_rfl) ?_
            iterate 18 (go_big_quiet_step (fail))
            refine wpQuiet_nil ?_
            intro Wq hw'
            have HBQ : Hid (Below W4.heap.size W4 Wq) := Lib.hid (by obtain ⟨⟨dq, osq⟩, hw''⟩ := hw'; rw [hw'']; exact below_regrown _ _ _)
            clear hw'
            go_wp2_with fail
            go_roundw
            case rel => exact ⟨k + 1, by go_num, by omega, Lib.hid (HB4.out.trans (HBQ.out.mono HB4.out.size))⟩
            case measure => simp [intOf]; omega
          · obtain ⟨j, rfl⟩ : ∃ j, k = j + 1 := ⟨k - 1, by omega⟩
            have hjl : j < Ls.length := by have := HKL.out; omega
            obtain ⟨_, _, hBj, hblj, gj, -⟩ := HZ2.out j hjl
            obtain ⟨rfl, rfl⟩ : bk = _ ∧ off = _ := by injection hBj with h; injection h with h1 h2 h3; exact ⟨h1, h2⟩
            have hql := HLT.out j rfl
            obtain ⟨y, hy⟩ : ∃ y, Ls.getD j zs0 = y := ⟨_, rfl⟩
            rw [hy] at gj hql
            have HCJ := Lib.hid (fun (W : World) (hb : Below w2.heap.size w2 W) => (hb.cell (p := ⟨bk, off + j, none⟩) hblj).trans gj)
            have hwr : IntKind.i64.wrap ((((j + 1 : Nat) : Int)) - 1) = (j : Int) := by rw [show (((j + 1 : Nat) : Int)) - 1 = (j : Int) by omega]; exact IntWalk.i64_in _ (by omega)
            have hwr2 : IntKind.i64.wrap (j : Int) = (j : Int) := IntWalk.i64_in _ (by omega)
            have hj1 : (j : Int) < (N : Int) := by omega
            have hj3 : (0 : Int) < (j : Int) + 1 := by omega
            have hj4 : decide ((0 : Int) < (j : Int) + 1) = true := decide_eq_true hj3
            have hj5 : (0 : Int) ≤ (j : Int) + 1 := by omega
            have hj6 : (j : Int) + 1 < (N : Int) := by omega
            have hj7 : ((j : Int) + 1).toNat = j + 1 := by omega
            clear hBj hblj gj hy hjl
            go_wp2_with (go_at_call 13; (with_reducible refine HA9.out.mono ?_); rintro e w3 ⟨p', rfl, -, -, hb3⟩; have HB3 := Lib.hid (HB.out.trans (hb3.mono HB.out.size)); clear hb3; obtain ⟨an, afr, afe, aca, apr, aA, aN, aC, abs⟩ := p'; simp only [Pr.cells]; obtain ⟨W4, hW4⟩ : ∃ W4, w3.alloc (.cells #[.string an, .int .i64 afr, .int .i64 afe, .string aca, .bool apr, .slice aA aN aC] 29) = W4 := ⟨_, rfl⟩; have HB4 := Lib.hid (HB3.out.trans ((hW4 ▸ below_one w3 _ : Below w3.heap.size w3 W4).mono HB3.out.size)); have k0 := cell_regrown (HCE.out _ HB4.out); have k1 := cell_regrown (HCJ.out _ HB4.out))
            refine wp_region_quiet_below (by kernel_rfl) (by kernel_rfl) ?_
            iterate 18 (go_big_quiet_step (fail))
            refine wpQuiet_nil ?_
            intro Wq hw'
            have HBQ : Hid (Below W4.heap.size W4 Wq) := Lib.hid (by obtain ⟨⟨dq, osq⟩, hw''⟩ := hw'; rw [hw'']; exact below_regrown _ _ _)
            clear hw'
            go_wp2_with fail
            go_roundw
            case rel => exact ⟨j + 1 + 1, by go_num, by omega, Lib.hid (HB4.out.trans (HBQ.out.mono HB4.out.size))⟩
            case measure => simp [intOf]; omega
        · obtain rfl : k = N := by omega
          clear hlt
          go_wp2_with fail
          go_loopw [9] (fun iv w8 => ∃ m : Nat, iv = .int .i64 m ∧ m ≤ n ∧ Hid (Below w2.heap.size w2 w8)) (fun iv _ => n - (intOf iv).toNat)
          case atStart => exact ⟨0, rfl, by omega, HB⟩
          case round =>
            obtain ⟨m, rfl, hmn, HBm⟩ := hrel
            by_cases hlt : m < n
            · have hml : m < l.length := by rw [HN.out]; exact hlt
              have hlt' : (m : Int) < (n : Int) := by omega
              obtain ⟨bk, off, rfl, hbl, hcs, -⟩ := HA.out m hml
              obtain ⟨p, hp⟩ : ∃ p, l.getD m pr0 = p := ⟨_, rfl⟩
              rw [hp] at hcs
              obtain ⟨pn, fr, fe, ca, pr, pA, pN, pC, bs⟩ := p
              unfold Pr.cells at hcs
              simp only at hcs
              have HC := Lib.hid (fun (W : World) (hb : Below w2.heap.size w2 W) => (hcs.below (HB2.out.trans (hb.mono HB2.out.size)) hbl).all)
              obtain ⟨e0, -, -, -, -, -⟩ := HC.out _ HBm.out
              obtain ⟨hs, hhs⟩ : ∃ hs, (verA l pn t).isSome = hs := ⟨_, rfl⟩
              have HA9 := Lib.hid (HAT.out pn hs hhs)
              have HHS := Lib.hid (fun (W : World) (h : ZsR W B2 Ls) => has_is B2 k m2 Ls pn hs ((HNH.out pn).trans hhs) W h HLN.out.1 HLN.out.2)
              clear hml hcs hp hbl hhs
              go_wp2_with (first
                | (go_at_call 13; (with_reducible refine (HA9.out _ (HA.out.below (HB2.out.trans (HBm.out.mono HB2.out.size)))).mono ?_); rintro e w3 ⟨p', rfl, -, -, hb3⟩; have HB3 := Lib.hid (HBm.out.trans (hb3.mono HBm.out.size)); clear hb3 e0; obtain ⟨an, afr, afe, aca, apr, aA, aN, aC, abs⟩ := p'; simp only [Pr.cells]; obtain ⟨W4, hW4⟩ : ∃ W4, w3.alloc (.cells #[.string an, .int .i64 afr, .int .i64 afe, .string aca, .bool apr, .slice aA aN aC] 29) = W4 := ⟨_, rfl⟩; have HB4 := Lib.hid (HB3.out.trans ((hW4 ▸ below_one w3 _ : Below w3.heap.size w3 W4).mono HB3.out.size)); obtain ⟨e0, -, -, -, -, -⟩ := HC.out _ HB4.out)
                | (go_at_call 22; (with_reducible refine (HHS.out _ (HZ2.out.below HB4.out)).mono ?_); rintro e w5 ⟨rfl, rfl⟩))
              go_roundw
              case rel => exact ⟨m + 1, by go_num, by omega, HB4⟩
              case measure => simp [intOf]; omega
            · obtain rfl : m = n := by omega
              go_wp2_with (go_at_call 9; (with_reducible refine (awake_any _).mono ?_); rintro e w3 ⟨rfl, hb3⟩; have HB3 := Lib.hid (HBm.out.trans (hb3.mono HBm.out.size)); clear hb3)
              go_ret
              exact ⟨rfl, HB2.out.trans (HB3.out.mono HB2.out.size)⟩
end Go.Proofs.Ythjckkcafhiomaa
