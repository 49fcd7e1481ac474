/- Walk of the law on places, from awake's contract. -/
import Derived.Test.YtpmcmafbfboocaaDoorVaL2
import Derived.Test.YtpmcmafbfboocaaDoorVaPM
namespace Go.Proofs.YtpmcmafbfboocaaDoor.Va
open Go.RowKit

theorem rcc_below {w w' : World} {b o : Nat} {r : Rc} (h : RcC w b o r) (hb : Below w.heap.size w w') (hl : b < w.heap.size) : RcC w' b o r := fun i hi => (hb.cell (p := ⟨b, o + i, none⟩) hl).trans (h i hi)
theorem out_of2 {w : World} {D : List Rc} {E : Nat → Int} {e : Ending} {w' : World} {P : List Rc} {J : List Rj} {p j : Nat} (hP : pasN D E D.length = P) (hJ : rejD D E D.length = J) (hp : P.length = p) (hj : J.length = j) (h : AllOut w D E e w') :
    ∃ A2 c2 A3 c3, e = .returned (.tuple #[.slice A2 p c2, .slice A3 j c3]) ∧ RecR w' A2 P ∧ RjR w' A3 J ∧ Below w.heap.size w w' ∧ p ≤ c2 ∧ c2 ≤ maxLen ∧ ∀ a, A2 = some a → a.block < w'.heap.size := by
  obtain ⟨v, u, rfl, ho, hu, hb⟩ := h
  rw [hP, hp] at ho
  rw [hJ, hj] at hu
  have hlt := World.ownsRow.lt ho
  obtain ⟨A2, c2, rfl, b1, b2, h2, -⟩ := rec_own ho hp
  obtain ⟨A3, c3, rfl, -, -, h3, -⟩ := rj_own hu hj
  exact ⟨A2, c2, A3, c3, rfl, h2, h3, hb, b1, b2, fun a ha => (hlt a.block (by subst ha; rfl)).2⟩
set_option maxRecDepth 100000 in
set_option maxHeartbeats 8000000 in
theorem placesWalk (HALV : Hid Alv) (A : Option Addr) (n c : Nat) (D : List Rc) (lo hi : Int) (w : World) (hA : RecR w A D) (hAl : ∀ a, A = some a → a.block < w.heap.size) (hn : D.length = n) (hc : n ≤ c) (hm : c ≤ maxLen) (hK : KN w) :
    Calls Tryd.prog 6 #[.slice A n c, .agg #[.int .i64 lo, .int .i64 hi]] w fun e w' => e = .returned (.bool true) ∧ Below w.heap.size w w' := by
  have hb0 : Below w.heap.size w (w.alloc (.cells #[.int .i64 lo, .int .i64 hi] 25)) := (Below.refl _ w).alloc (Nat.le_refl _) _
  have HQ : Hid (Blk (w.alloc (.cells #[.int .i64 lo, .int .i64 hi] 25)) w.heap.size 25 #[.int .i64 lo, .int .i64 hi]) := Lib.hid (Blk.new w 25 #[.int .i64 lo, .int .i64 hi])
  have HF := Lib.hid (few_any A n c D (w.alloc (.cells #[.int .i64 lo, .int .i64 hi] 25)) (hA.below hb0) hn (Nat.le_trans hc hm))
  have HB0 := Lib.hid hb0
  have HK := Lib.hid hK
  by_cases hf : fewL D = true
  · obtain ⟨h60, hD⟩ := few_len hf
    rw [hf] at HF
    obtain ⟨E, hE⟩ : ∃ E : Nat → Int, (fun k => allE (D.getD k rc0) lo hi) = E := ⟨_, rfl⟩
    obtain ⟨P, hP⟩ : ∃ P, pasN D (fun k => allE (D.getD k rc0) lo hi) D.length = P := ⟨_, rfl⟩
    obtain ⟨J, hJ⟩ : ∃ J, rejD D (fun k => allE (D.getD k rc0) lo hi) D.length = J := ⟨_, rfl⟩
    have hsum := parted D (fun k => allE (D.getD k rc0) lo hi) D.length
    rw [hP, hJ, hn] at hsum
    obtain ⟨ag1, ag2⟩ := again hP
    have hDP := pas_of hP hD
    obtain ⟨p, hp⟩ : ∃ p, P.length = p := ⟨_, rfl⟩
    obtain ⟨j, hj⟩ : ∃ j, J.length = j := ⟨_, rfl⟩
    rw [hp, hj] at hsum
    have hn60 : n ≤ 60 := by omega
    have HAL : Hid (∀ W, Below w.heap.size w W → Calls Tryd.prog 15 #[.slice A n c, .agg #[.int .i64 lo, .int .i64 hi]] W fun e w' => ∃ A2 c2 A3 c3, e = .returned (.tuple #[.slice A2 p c2, .slice A3 j c3]) ∧ RecR w' A2 P ∧ RjR w' A3 J ∧ Below W.heap.size W w' ∧ p ≤ c2 ∧ c2 ≤ maxLen ∧ ∀ a, A2 = some a → a.block < w'.heap.size) := Lib.hid (fun W hb =>
      (all_any A n c D lo hi W hD (hA.below hb) (fun a ha => Nat.lt_of_lt_of_le (hAl a ha) hb.size) hn (by omega) hc hm).mono fun e w' h => out_of2 hP hJ hp hj h)
    have HA2 : Hid (∀ A2 c2 W, RecR W A2 P → p ≤ c2 → c2 ≤ maxLen → (∀ a, A2 = some a → a.block < W.heap.size) → Calls Tryd.prog 15 #[.slice A2 p c2, .agg #[.int .i64 lo, .int .i64 hi]] W fun e w' => ∃ A4 c4 A5 c5, e = .returned (.tuple #[.slice A4 p c4, .slice A5 0 c5]) ∧ RecR w' A4 P ∧ RjR w' A5 [] ∧ Below W.heap.size W w') := Lib.hid (fun A2 c2 W h1 h2 h3 h4 =>
      (all_any A2 p c2 P lo hi W hDP h1 h4 hp (by omega) h2 h3).mono fun e w' h => out_of ag1 ag2 hp rfl h)
    have HSR := Lib.hid (fun A B c d W h1 h2 => same_rec A B p c d P W h1 h2 hp (by omega))
    have HCK := Lib.hid (fun r (hr : r ∈ D) w => vCheck_any r (hD r hr).1 (hD r hr).2 w)
    have HWN := Lib.hid (fun r w => window_any r lo hi w)
    have HTH : Hid (∀ i, i < n → E i ≠ 0 → (rejD D E i).length < j ∧ J.getD (rejD D E i).length rj0 = ((D.getD i rc0).s0, (D.getD i rc0).s1, (i : Int), E i)) := Lib.hid (fun i hi' he => by
      have h := rejD_there (D := D) (E := E) (m := D.length) (i := i) (by omega) he rfl
      rw [← hE, hJ, hj] at h
      rw [← hE]
      exact h)
    have HJL := Lib.hid hj
    have HEJ : Hid ((rejD D E n).length = j) := Lib.hid (by rw [← hn, ← hE, hJ, hj])
    have HE := Lib.hid hE
    have HN := Lib.hid hn
    have HA := Lib.hid hA
    obtain ⟨g, hg⟩ : ∃ g, w.heap.size = g := ⟨_, rfl⟩
    obtain ⟨L, hL⟩ : ∃ L, w.alloc (.cells #[.int .i64 lo, .int .i64 hi] 25) = L := ⟨_, rfl⟩
    rw [hg] at HQ
    rw [hL] at HQ HF HB0
    obtain ⟨q0, q1⟩ := HQ.out.two
    have hsi : (p : Int) + (j : Int) = (n : Int) := by omega
    clear hA hAl hn hc hm hK hb0 hf h60 hD hP hJ hp hj hE ag1 ag2 hDP
    go_enter Tryd.func6, Tryd.ntmps6
    go_wp2_with (first
      | (go_at_call 14; (with_reducible refine HF.out.mono ?_); rintro e w1 ⟨rfl, hb1⟩; have HB1 := Lib.hid (HB0.out.trans (hb1.mono HB0.out.size)); have HQ1 := Lib.hid (HQ.out.below hb1 HQ.out.lt); clear hb1 q0 q1; obtain ⟨q0, q1⟩ := HQ1.out.two)
      | (go_at_call 15; (with_reducible refine (HAL.out _ HB1.out).mono ?_); rintro e w2 ⟨A2, c2, A3, c3, rfl, hr2, hj2, hb2, b1, b2, b3⟩; have HB2 := Lib.hid (HB1.out.trans (hb2.mono HB1.out.size)); have HQ2 := Lib.hid (HQ1.out.below hb2 HQ1.out.lt); have HR2 := Lib.hid hr2; have HJ2 := Lib.hid hj2; have HB4 := Lib.hid (HA2.out A2 c2 w2 hr2 b1 b2 b3); clear hr2 hj2 hb2 q0 q1 b1 b2 b3; obtain ⟨q0, q1⟩ := HQ2.out.two)
      | (go_at_call 15; (with_reducible refine HB4.out.mono ?_); rintro e w3 ⟨A4, c4, A5, c5, rfl, hr3, hj3, hb3⟩; have HB3 := Lib.hid (HB2.out.trans (hb3.mono HB2.out.size)); have HQ3 := Lib.hid (HQ2.out.below hb3 HQ2.out.lt); have HR3 := Lib.hid (HR2.out.below hb3); have HJ3 := Lib.hid (HJ2.out.below hb3); have HR4 := Lib.hid hr3; clear hr3 hj3 hb3 q0 q1)
      | (go_at_call 17; (with_reducible refine (HSR.out _ _ _ _ _ HR3.out HR4.out).mono ?_); rintro e w4 ⟨rfl, hb4⟩; have HB5 := Lib.hid (HB3.out.trans (hb4.mono HB3.out.size)); have HJ5 := Lib.hid (HJ3.out.below hb4); have HQ5 := Lib.hid (HQ3.out.below hb4 HQ3.out.lt); clear hb4))
    go_loopw [9, 10, 11] (fun kv iv _ wr => ∃ i k : Nat, iv = .int .i64 i ∧ kv = .int .i64 k ∧ i ≤ n ∧ Hid ((rejD D E i).length = k) ∧ Hid (Below w4.heap.size w4 wr)) (fun _ iv _ _ => n - (intOf iv).toNat)
    case atStart => exact ⟨0, 0, rfl, rfl, by omega, Lib.hid rfl, Lib.hid (Below.refl _ _)⟩
    case round =>
      obtain ⟨i, k, rfl, rfl, hin, HKE, HBR⟩ := hrel
      by_cases hlt : i < n
      · have hkl : i < D.length := by rw [HN.out]; exact hlt
        have hlt' : (i : Int) < (n : Int) := by omega
        have hi0 : (0 : Int) ≤ (i : Int) := by omega
        have hbw : Below w.heap.size w wr := HB5.out.trans (HBR.out.mono HB5.out.size)
        have hm0 : D.getD i rc0 ∈ D := by rw [List.getD_eq_getElem?_getD, List.getElem?_eq_getElem hkl]; exact List.getElem_mem hkl
        obtain ⟨bk, off, rfl, hbl, hcs⟩ := (HA.out.below hbw) i hkl
        have HC1 := Lib.hid (fun w => HCK.out (D.getD i rc0) hm0 w)
        have HW1 := Lib.hid (fun w => HWN.out (D.getD i rc0) w)
        have HEK : Hid (E i = allE (D.getD i rc0) lo hi) := Lib.hid (congrFun HE.out i).symm
        have HQR := Lib.hid (HQ5.out.below HBR.out HQ5.out.lt)
        have HBL := Lib.hid hbl
        have HTH2 := Lib.hid (HTH.out i hlt)
        have HYES := Lib.hid (fun h => rejD_yes (D := D) (E := E) (k := i) h)
        have HNO := Lib.hid (fun r h h2 => rejD_no (D := D) (E := E) (k := i) (r := r) h h2)
        rw [HKE.out] at HTH2
        obtain ⟨q0, q1⟩ := HQR.out.two
        obtain ⟨⟨s0, s1, s2, sa, sb, s5, s6, s7, s8, b9, s10, b11⟩, hp⟩ : ∃ r, D.getD i rc0 = r := ⟨_, rfl⟩
        have HPR := Lib.hid hp
        rw [hp] at hcs HC1 HW1 HEK
        have HX := Lib.hid hcs
        obtain ⟨c0, c1, c2, c3, c4, c5, c6, c7, c8, c9, c10, c11⟩ := HX.out.all
        simp only at c0 c1 c2 c3 c4 c5 c6 c7 c8 c9 c10 c11
        simp only [Rc.cells] at HC1 HW1
        obtain ⟨x, hx⟩ : ∃ x, chkR ⟨s0, s1, s2, sa, sb, s5, s6, s7, s8, b9, s10, b11⟩ = x := ⟨_, rfl⟩
        obtain ⟨y, hy⟩ : ∃ y, winE ⟨s0, s1, s2, sa, sb, s5, s6, s7, s8, b9, s10, b11⟩ lo hi = y := ⟨_, rfl⟩
        rw [hx] at HC1
        rw [hy] at HW1
        unfold allE at HEK
        rw [hx, hy] at HEK
        clear hkl hbw hm0 hcs hp hx hy hbl
        have gq := guardRej
        by_cases hx0 : x = 0
        · subst hx0
          have HE2 : Hid (E i = y) := Lib.hid (by rw [HEK.out, if_neg (by simp)])
          by_cases hy0 : y = 0
          · subst hy0
            go_wp2_with (first
              | (go_at_call 10; (with_reducible refine (HC1.out _).mono ?_); rintro e w5 ⟨rfl, hb5⟩; have HBF := Lib.hid hb5; have HX5 := Lib.hid (rcc_below HX.out hb5 HBL.out); have HQ6 := Lib.hid (HQR.out.below hb5 HQR.out.lt); clear hb5 c0 c1 c2 c3 c4 c5 c6 c7 c8 c9 c10 c11; obtain ⟨c0, c1, c2, c3, c4, c5, c6, c7, c8, c9, c10, c11⟩ := HX5.out.all; simp only at c0 c1 c2 c3 c4 c5 c6 c7 c8 c9 c10 c11; obtain ⟨q0, q1⟩ := HQ6.out.two))
            go_region_held3 (fun w' => w'.cell? ⟨bk, off + i * 12, none⟩ = some (.int .i64 s0) ∧ w'.cell? ⟨bk, off + i * 12 + 1, none⟩ = some (.int .i64 s1) ∧ w'.cell? ⟨bk, off + i * 12 + 2, none⟩ = some (.int .i64 s2) ∧ w'.cell? ⟨bk, off + i * 12 + 3, none⟩ = some (.string sa) ∧ w'.cell? ⟨bk, off + i * 12 + 4, none⟩ = some (.string sb) ∧ w'.cell? ⟨bk, off + i * 12 + 5, none⟩ = some (.int .i64 s5) ∧ w'.cell? ⟨bk, off + i * 12 + 6, none⟩ = some (.int .i64 s6) ∧ w'.cell? ⟨bk, off + i * 12 + 7, none⟩ = some (.int .i64 s7) ∧ w'.cell? ⟨bk, off + i * 12 + 8, none⟩ = some (.int .i64 s8) ∧ w'.cell? ⟨bk, off + i * 12 + 9, none⟩ = some (.bool b9) ∧ w'.cell? ⟨bk, off + i * 12 + 10, none⟩ = some (.int .i64 s10) ∧ w'.cell? ⟨bk, off + i * 12 + 11, none⟩ = some (.bool b11) ∧ w'.cell? ⟨g, 0, none⟩ = some (.int .i64 lo) ∧ w'.cell? ⟨g, 1, none⟩ = some (.int .i64 hi)) (go_keep)
              (first
                | (go_at_call 12; (with_reducible refine (HW1.out _).mono ?_); rintro e w6 ⟨rfl, hx6⟩; have hb6 : Below w5.heap.size w5 w6 := ⟨hx6.os, hx6.tape, hx6.output, hx6.size, hx6.block⟩; have HBG := Lib.hid hb6; have HX6 := Lib.hid (rcc_below HX5.out hb6 (Nat.lt_of_lt_of_le HBL.out HBF.out.size)); have HQ7 := Lib.hid (HQ6.out.below hb6 HQ6.out.lt); clear hx6 hb6; obtain ⟨d0, d1, d2, d3, d4, d5, d6, d7, d8, d9, d10, d11⟩ := HX6.out.all; simp only at d0 d1 d2 d3 d4 d5 d6 d7 d8 d9 d10 d11; obtain ⟨z0, z1⟩ := HQ7.out.two))
            go_wp2_with fail
            go_roundw
            case rel => exact ⟨i + 1, k, by go_num, rfl, by omega, Lib.hid (by rw [HYES.out HE2.out]; exact HKE.out), Lib.hid (HBR.out.trans ((HBF.out.trans (HBG.out.mono HBF.out.size)).mono HBR.out.size))⟩
            case measure => simp [intOf]; omega
          · have hyq : (y == 0) = false := by simp [hy0]
            have nq := neqRej_same s0 s1 (i : Int) y
            have HNE : Hid (E i ≠ 0) := Lib.hid (by rw [HE2.out]; exact hy0)
            have htk := HTH2.out HNE.out
            rw [HPR.out, HE2.out] at htk
            obtain ⟨hkj, htk2⟩ := htk
            obtain ⟨bj, oj, rfl, hbj, j0, j1, j2, j3⟩ := (HJ5.out.below HBR.out) k (by rw [HJL.out]; exact hkj)
            rw [htk2] at j0 j1 j2 j3
            simp only at j0 j1 j2 j3
            have hkj' : (k : Int) < (j : Int) := by omega
            have hk0 : (0 : Int) ≤ (k : Int) := by omega
            have HJC := Lib.hid (And.intro j0 (And.intro j1 (And.intro j2 j3)))
            have HBJ := Lib.hid hbj
            clear j0 j1 j2 j3 hbj htk2
            clear hy0
            go_wp2_with (first
              | (go_at_call 10; (with_reducible refine (HC1.out _).mono ?_); rintro e w5 ⟨rfl, hb5⟩; have HBF := Lib.hid hb5; have HX5 := Lib.hid (rcc_below HX.out hb5 HBL.out); have HQ6 := Lib.hid (HQR.out.below hb5 HQR.out.lt); clear hb5 c0 c1 c2 c3 c4 c5 c6 c7 c8 c9 c10 c11; obtain ⟨c0, c1, c2, c3, c4, c5, c6, c7, c8, c9, c10, c11⟩ := HX5.out.all; simp only at c0 c1 c2 c3 c4 c5 c6 c7 c8 c9 c10 c11; obtain ⟨q0, q1⟩ := HQ6.out.two))
            go_region_held3 (fun w' => w'.cell? ⟨bk, off + i * 12, none⟩ = some (.int .i64 s0) ∧ w'.cell? ⟨bk, off + i * 12 + 1, none⟩ = some (.int .i64 s1) ∧ w'.cell? ⟨bk, off + i * 12 + 2, none⟩ = some (.int .i64 s2) ∧ w'.cell? ⟨bk, off + i * 12 + 3, none⟩ = some (.string sa) ∧ w'.cell? ⟨bk, off + i * 12 + 4, none⟩ = some (.string sb) ∧ w'.cell? ⟨bk, off + i * 12 + 5, none⟩ = some (.int .i64 s5) ∧ w'.cell? ⟨bk, off + i * 12 + 6, none⟩ = some (.int .i64 s6) ∧ w'.cell? ⟨bk, off + i * 12 + 7, none⟩ = some (.int .i64 s7) ∧ w'.cell? ⟨bk, off + i * 12 + 8, none⟩ = some (.int .i64 s8) ∧ w'.cell? ⟨bk, off + i * 12 + 9, none⟩ = some (.bool b9) ∧ w'.cell? ⟨bk, off + i * 12 + 10, none⟩ = some (.int .i64 s10) ∧ w'.cell? ⟨bk, off + i * 12 + 11, none⟩ = some (.bool b11) ∧ w'.cell? ⟨g, 0, none⟩ = some (.int .i64 lo) ∧ w'.cell? ⟨g, 1, none⟩ = some (.int .i64 hi)) (go_keep)
              (first
                | (go_at_call 12; (with_reducible refine (HW1.out _).mono ?_); rintro e w6 ⟨rfl, hx6⟩; have hb6 : Below w5.heap.size w5 w6 := ⟨hx6.os, hx6.tape, hx6.output, hx6.size, hx6.block⟩; have HBG := Lib.hid hb6; have HX6 := Lib.hid (rcc_below HX5.out hb6 (Nat.lt_of_lt_of_le HBL.out HBF.out.size)); have HQ7 := Lib.hid (HQ6.out.below hb6 HQ6.out.lt); clear hx6 hb6; obtain ⟨d0, d1, d2, d3, d4, d5, d6, d7, d8, d9, d10, d11⟩ := HX6.out.all; simp only at d0 d1 d2 d3 d4 d5 d6 d7 d8 d9 d10 d11; obtain ⟨z0, z1⟩ := HQ7.out.two))
            go_wp2_with fail
            have HBS := Lib.hid (HBF.out.trans (HBG.out.mono HBF.out.size))
            have j0 := (HBS.out.cell (p := ⟨bj, oj + k * 4, none⟩) HBJ.out).trans HJC.out.1
            have j1 := (HBS.out.cell (p := ⟨bj, oj + k * 4 + 1, none⟩) HBJ.out).trans HJC.out.2.1
            have j2 := (HBS.out.cell (p := ⟨bj, oj + k * 4 + 2, none⟩) HBJ.out).trans HJC.out.2.2.1
            have j3 := (HBS.out.cell (p := ⟨bj, oj + k * 4 + 3, none⟩) HBJ.out).trans HJC.out.2.2.2
            go_quiet (fail)
            go_wp2_with fail
            go_roundw
            case rel => exact ⟨i + 1, k + 1, by go_num, by go_num, by omega, Lib.hid (by rw [HNO.out _ HNE.out HPR.out, List.length_append, HKE.out]; rfl), Lib.hid (below_drewN (HBR.out.trans (HBS.out.mono HBR.out.size)) _)⟩
            case measure => simp [intOf]; omega
        · have hxq : (x == 0) = false := by simp [hx0]
          have HE2 : Hid (E i = x) := Lib.hid (by rw [HEK.out, if_pos hx0])
          have nq := neqRej_same s0 s1 (i : Int) x
          have HNE : Hid (E i ≠ 0) := Lib.hid (by rw [HE2.out]; exact hx0)
          have htk := HTH2.out HNE.out
          rw [HPR.out, HE2.out] at htk
          obtain ⟨hkj, htk2⟩ := htk
          obtain ⟨bj, oj, rfl, hbj, j0, j1, j2, j3⟩ := (HJ5.out.below HBR.out) k (by rw [HJL.out]; exact hkj)
          rw [htk2] at j0 j1 j2 j3
          simp only at j0 j1 j2 j3
          have hkj' : (k : Int) < (j : Int) := by omega
          have hk0 : (0 : Int) ≤ (k : Int) := by omega
          have HJC := Lib.hid (And.intro j0 (And.intro j1 (And.intro j2 j3)))
          have HBJ := Lib.hid hbj
          clear j0 j1 j2 j3 hbj htk2
          clear hx0
          go_wp2_with (first
            | (go_at_call 10; (with_reducible refine (HC1.out _).mono ?_); rintro e w5 ⟨rfl, hb5⟩; have HBF := Lib.hid hb5; have HX5 := Lib.hid (rcc_below HX.out hb5 HBL.out); have HQ6 := Lib.hid (HQR.out.below hb5 HQR.out.lt); clear hb5 c0 c1 c2 c3 c4 c5 c6 c7 c8 c9 c10 c11; obtain ⟨c0, c1, c2, c3, c4, c5, c6, c7, c8, c9, c10, c11⟩ := HX5.out.all; simp only at c0 c1 c2 c3 c4 c5 c6 c7 c8 c9 c10 c11; obtain ⟨q0, q1⟩ := HQ6.out.two))
          have HBS := HBF
          have j0 := (HBS.out.cell (p := ⟨bj, oj + k * 4, none⟩) HBJ.out).trans HJC.out.1
          have j1 := (HBS.out.cell (p := ⟨bj, oj + k * 4 + 1, none⟩) HBJ.out).trans HJC.out.2.1
          have j2 := (HBS.out.cell (p := ⟨bj, oj + k * 4 + 2, none⟩) HBJ.out).trans HJC.out.2.2.1
          have j3 := (HBS.out.cell (p := ⟨bj, oj + k * 4 + 3, none⟩) HBJ.out).trans HJC.out.2.2.2
          go_quiet (fail)
          go_wp2_with fail
          go_roundw
          case rel => exact ⟨i + 1, k + 1, by go_num, by go_num, by omega, Lib.hid (by rw [HNO.out _ HNE.out HPR.out, List.length_append, HKE.out]; rfl), Lib.hid (below_drewN (HBR.out.trans (HBS.out.mono HBR.out.size)) _)⟩
          case measure => simp [intOf]; omega
      · obtain rfl : i = n := by omega
        have hkj : k = j := by rw [← HKE.out, HEJ.out]
        subst hkj
        go_wp2_with (first
          | (go_at_call 9; (with_reducible refine (HALV.out _ (HK.out.below (HB5.out.trans (HBR.out.mono HB5.out.size)))).mono ?_); rintro e w9 ⟨rfl, hb9⟩))
        go_ret
        exact ⟨rfl, (HB5.out.trans (HBR.out.mono HB5.out.size)).trans (hb9.mono (HB5.out.trans (HBR.out.mono HB5.out.size)).size)⟩
  · rw [Bool.not_eq_true] at hf
    rw [hf] at HF
    obtain ⟨g, hg⟩ : ∃ g, w.heap.size = g := ⟨_, rfl⟩
    obtain ⟨L, hL⟩ : ∃ L, w.alloc (.cells #[.int .i64 lo, .int .i64 hi] 25) = L := ⟨_, rfl⟩
    rw [hL] at HF HB0
    clear hA hAl hn hc hm hK hb0 hf HQ
    go_enter Tryd.func6, Tryd.ntmps6
    go_wp2_with (first
      | (go_at_call 14; (with_reducible refine HF.out.mono ?_); rintro e w1 ⟨rfl, hb1⟩; have HB1 := Lib.hid (HB0.out.trans (hb1.mono HB0.out.size)); clear hb1)
      | (go_at_call 9; (with_reducible refine (HALV.out _ (HK.out.below HB1.out)).mono ?_); rintro e w9 ⟨rfl, hb9⟩))
    go_ret
    exact ⟨rfl, HB1.out.trans (hb9.mono HB1.out.size)⟩
end Go.Proofs.YtpmcmafbfboocaaDoor.Va
