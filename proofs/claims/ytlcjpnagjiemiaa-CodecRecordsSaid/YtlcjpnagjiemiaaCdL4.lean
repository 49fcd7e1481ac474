/- Walk of the law CodecRecords. -/
import Derived.Test.YtlcjpnagjiemiaaRows
import Derived.Test.YtlcjpnagjiemiaaCdRP
import Derived.Test.YtlcjpnagjiemiaaCdL7
namespace Go.Proofs.Ytlcjpnagjiemiaa
open Go.RowKit

theorem codRecord_of {A : Option Addr} {n c : Nat} {l : List Int} {w : World} (hA : Byt w A n c l) (hn : n ≤ 1000000000) :
    Calls Try.prog 24 #[.slice A n c] w fun e w' => ∃ v, e = .returned (.tuple #[.agg (if (recR (l, 0)).2.2 = 0 then (recR (l, 0)).1 else rc0).cells, v, .int .i64 (recR (l, 0)).2.2]) ∧ Own w' w.heap.size v (recR (l, 0)).2.1 ∧ Below w.heap.size w w' := by
  have h := codRecord_any hA hn
  unfold RecP at h
  refine h.mono fun e w' ⟨v, r', he, h1, h2, ho, hb⟩ => ⟨v, ?_, ho, hb⟩
  rw [he]
  by_cases h0 : (recR (l, 0)).2.2 = 0
  · rw [if_pos h0, h1 h0]
  · rw [if_neg h0, h2 h0]
theorem refRecord_of {A : Option Addr} {n c : Nat} {l : List Int} {w : World} (hA : Byt w A n c l) (hn : n ≤ 1000) :
    Calls Try.prog 25 #[.slice A n c] w fun e w' => ∃ A' m' c', e = .returned (.tuple #[.agg (if (recR (l, 0)).2.2 = 0 then (recR (l, 0)).1 else rc0).cells, .slice A' m' c', .int .i64 (recR (l, 0)).2.2]) ∧ Byt w' A' m' c' (recR (l, 0)).2.1 ∧ Below w.heap.size w w' := by
  have h := refRecord_any hA hn
  unfold RRecP at h
  refine h.mono fun e w' ⟨A', m', c', r', he, h1, h2, ho, hb⟩ => ⟨A', m', c', ?_, ho, hb⟩
  rw [he]
  by_cases h0 : (recR (l, 0)).2.2 = 0
  · rw [if_pos h0, h1 h0]
  · rw [if_neg h0, h2 h0]
set_option maxRecDepth 100000 in
set_option maxHeartbeats 32000000 in
theorem recsGood (A : Option Addr) (n c : Nat) (l : List Int) (r : Rc) (W : World) (hA : Byt W A n c l) (hr : r.Nums) (hn : n ≤ 300) (hsa : r.sa.size ≤ 100) (hsb : r.sb.size ≤ 100) :
    Calls Try.prog 6 #[.slice A n c, .agg r.cells] W fun e w' => e = .returned (.bool true) ∧ Below W.heap.size W w' := by
  have HALV := Lib.hid alive_any
  obtain ⟨L, hL, hL0, hx, hLs⟩ := rec_world W r
  have hin : r.In 1000 := hr.toIn (by omega) (by omega)
  have hP := codRecord_of (hA.below hL0) (by omega)
  have hQ := fun (w' : World) (h : Below L.heap.size L w') => refRecord_of ((hA.below hL0).below h) (by omega)
  obtain ⟨⟨V, R, er⟩, hS⟩ : ∃ S, recR (l, 0) = S := ⟨_, rfl⟩
  rw [hS] at hP hQ
  obtain ⟨rr, hrr⟩ : ∃ rr, (if ((V, (R, er)) : Rc × St).2.2 = 0 then ((V, (R, er)) : Rc × St).1 else rc0) = rr := ⟨_, rfl⟩
  rw [hrr] at hP hQ
  simp only at hP hQ
  have hPR := fun (w' : World) (h : Below L.heap.size L w') => putRec_any (r := r) ((hA.below hL0).below h) (by omega) hin
  have hPF := fun (w' : World) (h : Below L.heap.size L w') => refPutRec_any (r := r) ((hA.below hL0).below h) (by omega) hin
  obtain ⟨k0, k1, k2, k3, k4, k5, k6, k7, k8, k9, k10, k11⟩ := hx.cells
  have hni : (n : Int) ≤ 300 := by omega
  have hci : (r.sa.size : Int) ≤ 100 := by omega
  have hcj : (r.sb.size : Int) ≤ 100 := by omega
  unfold Rc.cells at hL hP hQ hPR hPF ⊢
  have HP := Lib.hid hP; have HQ := Lib.hid hQ; have HPR := Lib.hid hPR; have HPF := Lib.hid hPF
  have HL0 := Lib.hid hL0; have HXr := Lib.hid hx; have HG : Hid (W.heap.size < L.heap.size) := Lib.hid (by omega)
  have HL0' : Hid (Below L.heap.size L L) := Lib.hid (Below.refl _ _)
  clear hP hQ hPR hPF hL0 hx hLs hS hrr hin hA hr hn hsa hsb
  go_enter Try.func6, Try.ntmps6
  go_upto_region 5 with (first
    | (go_at_call 24; have hD := HP.out; refine hD.mono ?_; rintro e w1 ⟨v1, rfl, ho1, hb1⟩; obtain ⟨W2, hW2, hb2, hx2, hs2⟩ := rec_world w1 rr; unfold Rc.cells at hW2; have HO1 := Lib.hid (ho1.kept hb2); have HX2 := Lib.hid hx2; have HG2 : Hid (w1.heap.size < W2.heap.size) := Lib.hid (by omega); have HB2 := Lib.hid (HL0'.out.trans ((hb1.trans (hb2.mono hb1.size)))); clear ho1 hb1 hb2 hx2 hs2 hD)
    | (go_at_call 25; refine (HQ.out _ HB2.out).mono ?_; rintro e w3 ⟨A3, m3, c3, rfl, y3, hb3⟩; obtain ⟨W4, hW4, hb4, hx4, hs4⟩ := rec_world w3 rr; unfold Rc.cells at hW4; have HY3 := Lib.hid (y3.below hb4); have HO1 := Lib.hid (HO1.out.kept (hb3.trans (hb4.mono hb3.size))); have HX2 := Lib.hid (HX2.out.below (hb3.trans (hb4.mono hb3.size)) HG2.out); have HX4 := Lib.hid hx4; have HG4 : Hid (w3.heap.size < W4.heap.size ∧ w1.heap.size < W4.heap.size) := Lib.hid (by have := HG2.out; have := hb3.size; omega); have HB4 := Lib.hid (HB2.out.trans ((hb3.trans (hb4.mono hb3.size)).mono HB2.out.size)); clear y3 hb3 hb4 hx4 hs4))
  obtain ⟨A1, m1, c1, rfl, hm1, y1⟩ := HO1.out.bytm
  have HSM := Lib.hid (fun (w' : World) (h : Below W4.heap.size W4 w') => same_yes (y1.below h) (HY3.out.below h) rfl)
  have HCr : Hid (∀ w', Below W4.heap.size W4 w' → _) := Lib.hid (fun w' (h : Below W4.heap.size W4 w') => ((HXr.out.below HB4.out HG.out).below h (by have := HB4.out.size; have := HG.out; omega)).cells)
  have HCx : Hid (∀ w', Below W4.heap.size W4 w' → _) := Lib.hid (fun w' (h : Below W4.heap.size W4 w') => (HX2.out.below h (by have := HG4.out; omega)).cells)
  have HCy : Hid (∀ w', Below W4.heap.size W4 w' → _) := Lib.hid (fun w' (h : Below W4.heap.size W4 w') => (HX4.out.below h (by have := HG4.out; omega)).cells)
  clear k0 k1 k2 k3 k4 k5 k6 k7 k8 k9 k10 k11 y1
  obtain ⟨k0, k1, k2, k3, k4, k5, k6, k7, k8, k9, k10, k11⟩ := HCr.out _ (Below.refl _ _)
  obtain ⟨p0, p1, p2, p3, p4, p5, p6, p7, p8, p9, p10, p11⟩ := HCx.out _ (Below.refl _ _)
  obtain ⟨q0, q1, q2, q3, q4, q5, q6, q7, q8, q9, q10, q11⟩ := HCy.out _ (Below.refl _ _)
  have bd : Below W4.heap.size W4 W4.drew := ⟨rfl, rfl, rfl, Nat.le_refl _, fun _ _ => rfl⟩
  have HBD := Lib.hid bd
  have HBL : Hid (∀ w', Below W4.heap.size W4 w' → Below L.heap.size L w') := Lib.hid (fun w' h => HB4.out.trans (h.mono HB4.out.size))
  clear bd
  go_region_held3 (fun w' => w'.cell? ⟨W.heap.size, 0, none⟩ = some (.int .i64 r.s0) ∧ w'.cell? ⟨W.heap.size, 1, none⟩ = some (.int .i64 r.s1) ∧ w'.cell? ⟨W.heap.size, 2, none⟩ = some (.int .i64 r.s2) ∧ w'.cell? ⟨W.heap.size, 3, none⟩ = some (.string r.sa) ∧ w'.cell? ⟨W.heap.size, 4, none⟩ = some (.string r.sb) ∧ w'.cell? ⟨W.heap.size, 5, none⟩ = some (.int .i64 r.s5) ∧ w'.cell? ⟨W.heap.size, 6, none⟩ = some (.int .i64 r.s6) ∧ w'.cell? ⟨W.heap.size, 7, none⟩ = some (.int .i64 r.s7) ∧ w'.cell? ⟨W.heap.size, 8, none⟩ = some (.int .i64 r.s8) ∧ w'.cell? ⟨W.heap.size, 9, none⟩ = some (.bool r.b9) ∧ w'.cell? ⟨W.heap.size, 10, none⟩ = some (.int .i64 r.s10) ∧ w'.cell? ⟨W.heap.size, 11, none⟩ = some (.bool r.b11) ∧ w'.cell? ⟨w1.heap.size, 0, none⟩ = some (.int .i64 rr.s0) ∧ w'.cell? ⟨w1.heap.size, 1, none⟩ = some (.int .i64 rr.s1) ∧ w'.cell? ⟨w1.heap.size, 2, none⟩ = some (.int .i64 rr.s2) ∧ w'.cell? ⟨w1.heap.size, 3, none⟩ = some (.string rr.sa) ∧ w'.cell? ⟨w1.heap.size, 4, none⟩ = some (.string rr.sb) ∧ w'.cell? ⟨w1.heap.size, 5, none⟩ = some (.int .i64 rr.s5) ∧ w'.cell? ⟨w1.heap.size, 6, none⟩ = some (.int .i64 rr.s6) ∧ w'.cell? ⟨w1.heap.size, 7, none⟩ = some (.int .i64 rr.s7) ∧ w'.cell? ⟨w1.heap.size, 8, none⟩ = some (.int .i64 rr.s8) ∧ w'.cell? ⟨w1.heap.size, 9, none⟩ = some (.bool rr.b9) ∧ w'.cell? ⟨w1.heap.size, 10, none⟩ = some (.int .i64 rr.s10) ∧ w'.cell? ⟨w1.heap.size, 11, none⟩ = some (.bool rr.b11) ∧ w'.cell? ⟨w3.heap.size, 0, none⟩ = some (.int .i64 rr.s0) ∧ w'.cell? ⟨w3.heap.size, 1, none⟩ = some (.int .i64 rr.s1) ∧ w'.cell? ⟨w3.heap.size, 2, none⟩ = some (.int .i64 rr.s2) ∧ w'.cell? ⟨w3.heap.size, 3, none⟩ = some (.string rr.sa) ∧ w'.cell? ⟨w3.heap.size, 4, none⟩ = some (.string rr.sb) ∧ w'.cell? ⟨w3.heap.size, 5, none⟩ = some (.int .i64 rr.s5) ∧ w'.cell? ⟨w3.heap.size, 6, none⟩ = some (.int .i64 rr.s6) ∧ w'.cell? ⟨w3.heap.size, 7, none⟩ = some (.int .i64 rr.s7) ∧ w'.cell? ⟨w3.heap.size, 8, none⟩ = some (.int .i64 rr.s8) ∧ w'.cell? ⟨w3.heap.size, 9, none⟩ = some (.bool rr.b9) ∧ w'.cell? ⟨w3.heap.size, 10, none⟩ = some (.int .i64 rr.s10) ∧ w'.cell? ⟨w3.heap.size, 11, none⟩ = some (.bool rr.b11)) (go_keep)
    (first
      | (go_at_call 11; (with_reducible refine (HSM.out _ HBD.out).mono ?_); rintro e w5 ⟨rfl, rfl⟩)
      | (go_at_call 26; refine (HPR.out _ (HBL.out _ HBD.out)).mono ?_; rintro e w6 ⟨v6, rfl, ho6, hb6⟩; have HB6 := Lib.hid (HBD.out.trans (hb6.mono HBD.out.size)); have HO6 := Lib.hid ho6; obtain ⟨k0, k1, k2, k3, k4, k5, k6, k7, k8, k9, k10, k11⟩ := HCr.out _ HB6.out; obtain ⟨p0, p1, p2, p3, p4, p5, p6, p7, p8, p9, p10, p11⟩ := HCx.out _ HB6.out; obtain ⟨q0, q1, q2, q3, q4, q5, q6, q7, q8, q9, q10, q11⟩ := HCy.out _ HB6.out; clear ho6 hb6)
      | (go_at_call 27; refine (HPF.out _ (HBL.out _ HB6.out)).mono ?_; rintro e w7 ⟨A7, m7, c7, rfl, y7, hb7⟩; have HB7 := Lib.hid (HB6.out.trans (hb7.mono HB6.out.size)); have HO6 := Lib.hid (HO6.out.kept hb7); obtain ⟨A6, m6, c6, rfl, hm6, y6⟩ := HO6.out.bytm; have HS2 := Lib.hid (same_yes y6 y7 rfl); obtain ⟨k0, k1, k2, k3, k4, k5, k6, k7, k8, k9, k10, k11⟩ := HCr.out _ HB7.out; obtain ⟨p0, p1, p2, p3, p4, p5, p6, p7, p8, p9, p10, p11⟩ := HCx.out _ HB7.out; obtain ⟨q0, q1, q2, q3, q4, q5, q6, q7, q8, q9, q10, q11⟩ := HCy.out _ HB7.out; clear y6 y7 hb7)
      | (go_at_call 11; (refine HS2.out.mono ?_); rintro e w8 ⟨rfl, rfl⟩)
      | (go_at_call 14; refine (HALV.out _).mono ?_; rintro e w9 ⟨rfl, hb9⟩; have HB9 := Lib.hid (HB7.out.trans (hb9.mono HB7.out.size)); obtain ⟨k0, k1, k2, k3, k4, k5, k6, k7, k8, k9, k10, k11⟩ := HCr.out _ HB9.out; obtain ⟨p0, p1, p2, p3, p4, p5, p6, p7, p8, p9, p10, p11⟩ := HCx.out _ HB9.out; obtain ⟨q0, q1, q2, q3, q4, q5, q6, q7, q8, q9, q10, q11⟩ := HCy.out _ HB9.out; clear hb9))
  go_wp2
  go_ret
  exact ⟨rfl, HL0.out.trans ((HBL.out _ HB9.out).mono HL0.out.size)⟩

set_option maxRecDepth 100000 in
set_option maxHeartbeats 4000000 in
theorem walkCodecRecords (A : Option Addr) (n c : Nat) (zs : List Int) (r : Rc) (W : World) (h1 : IsRow .u8 W A n c zs) (hr : r.Nums) :
    Calls Try.prog 6 #[.slice A n c, .agg r.cells] W fun e w' => e = .returned (.bool true) ∧ Below W.heap.size W w' := by
  by_cases hg : n ≤ 300 ∧ r.sa.size ≤ 100 ∧ r.sb.size ≤ 100
  · exact recsGood A n c _ r W (byt_of_row h1) hr hg.1 hg.2.1 hg.2.2
  · have HALV := Lib.hid alive_any
    obtain ⟨L, hL, hL0, hx, hLs⟩ := rec_world W r
    have HL0 := Lib.hid hL0
    obtain ⟨k0, k1, k2, k3, k4, k5, k6, k7, k8, k9, k10, k11⟩ := hx.cells
    unfold Rc.cells at hL ⊢
    clear hr h1 hL0 hx hLs
    by_cases g1 : (300 : Int) < (n : Int)
    · clear hg
      go_enter Try.func6, Try.ntmps6
      go_wp2_with (go_at_call 14; refine (HALV.out _).mono ?_; rintro e w12 ⟨rfl, hb12⟩)
      go_ret
      exact ⟨rfl, HL0.out.trans (hb12.mono HL0.out.size)⟩
    · by_cases g2 : (100 : Int) < (r.sa.size : Int)
      · clear hg
        go_enter Try.func6, Try.ntmps6
        go_wp2_with (go_at_call 14; refine (HALV.out _).mono ?_; rintro e w12 ⟨rfl, hb12⟩)
        go_ret
        exact ⟨rfl, HL0.out.trans (hb12.mono HL0.out.size)⟩
      · have g3 : (100 : Int) < (r.sb.size : Int) := by omega
        clear hg
        go_enter Try.func6, Try.ntmps6
        go_wp2_with (go_at_call 14; refine (HALV.out _).mono ?_; rintro e w12 ⟨rfl, hb12⟩)
        go_ret
        exact ⟨rfl, HL0.out.trans (hb12.mono HL0.out.size)⟩
end Go.Proofs.Ytlcjpnagjiemiaa
