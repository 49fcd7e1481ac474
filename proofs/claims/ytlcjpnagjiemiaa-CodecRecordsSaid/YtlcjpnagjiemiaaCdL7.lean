/- Walk of the law CodecCut. -/
import Derived.Test.YtlcjpnagjiemiaaRows
import Derived.Test.YtlcjpnagjiemiaaCdH
import Derived.Deep.RegionHeld3
import Derived.Deep.Cut
namespace Go.Proofs.Ytlcjpnagjiemiaa
open Go.RowKit

theorem drew_below {w w1 : World} (h : Below w.drew.heap.size w.drew w1) : Below w.heap.size w w1 := ⟨h.os, h.tape, h.output, h.size, h.block⟩
theorem codNum_cut {A : Option Addr} {n c k : Nat} {z : Int} {w : World} (hA : Byt w A n c ((numE z).take k)) (hn : n ≤ 1000000000) (hz : -9223372036854775808 ≤ z ∧ z ≤ 9223372036854775807) (hk : k < (numE z).length) :
    Calls Try.prog 15 #[.slice A n c] w fun e w' => ∃ v, e = .returned (.tuple #[.int .i64 0, v, .int .i64 2]) ∧ Own w' w.heap.size v [] ∧ Below w.heap.size w w' := by
  have h := codNumber_any hA hn
  rw [numR_cut z k hz.1 hz.2 hk] at h
  exact h
theorem codNums_cut {A : Option Addr} {n c k : Nat} {zs : List Int} {w : World} (hA : Byt w A n c ((numE zs.length ++ listE zs).take k)) (hn : n ≤ 1000000000) (hl : zs.length ≤ 1048576) (hz : ∀ z ∈ zs, -9223372036854775808 ≤ z ∧ z ≤ 9223372036854775807) (hk : k < (numE zs.length ++ listE zs).length) :
    Calls Try.prog 17 #[.slice A n c] w fun e w' => ∃ u v, e = .returned (.tuple #[u, v, .int .i64 2]) ∧ OwnI w' w.heap.size u [] ∧ Own w' w.heap.size v [] ∧ Below w.heap.size w w' := by
  have h := codNumbers_any hA hn
  rw [numsR_cut zs k hl hz hk] at h
  exact h
theorem codRec_cut {A : Option Addr} {n c k : Nat} {r : Rc} {w : World} (hA : Byt w A n c (r.enc.take k)) (hn : n ≤ 1000000000) (hr : r.In 1000) (hk : k < r.enc.length) :
    Calls Try.prog 24 #[.slice A n c] w fun e w' => ∃ v, e = .returned (.tuple #[.agg rc0.cells, v, .int .i64 2]) ∧ Own w' w.heap.size v [] ∧ Below w.heap.size w w' := by
  have h := codRecord_any hA hn
  unfold RecP at h
  rw [recR_cut r k hr hk] at h
  exact h.mono fun e w' ⟨v, r', he, _, h2, ho, hb⟩ => ⟨v, by rw [he, h2 (by decide)], ho, hb⟩
theorem alloc_then {L w6 w12 : World} {o : Obj} (h : Below L.heap.size L w6) (k : Below (w6.alloc o).heap.size (w6.alloc o) w12) : Below L.heap.size L w12 := by
  have h9 := h.trans ((below_lit w6 o).mono h.size)
  exact h9.trans (k.mono h9.size)
theorem mod_at {z : Int} {m : Nat} (hz : 0 ≤ z) (hm : 0 < m) : ∃ k : Nat, z % (m : Int) = (k : Int) ∧ k < m := by
  obtain ⟨n, rfl⟩ := Int.eq_ofNat_of_zero_le hz
  exact ⟨n % m, by rfl, Nat.mod_lt n hm⟩
theorem numE_pos (z : Int) : 0 < (numE z).length := grp_pos _
theorem enc_pos (r : Rc) : 0 < r.enc.length := by
  have := numE_pos r.s0
  simp only [Rc.enc, List.length_append]; omega
set_option maxRecDepth 100000 in
set_option maxHeartbeats 16000000 in
theorem cutGood (r : Rc) (B : Option Addr) (m d : Nat) (zs : List Int) (z : Int) (W : World) (hr : r.Nums) (hI : Ints W B m d zs) (hz : 0 ≤ z ∧ z ≤ 65535) (hsa : r.sa.size ≤ 60) (hsb : r.sb.size ≤ 60) (hm : m ≤ 60) :
    Calls Try.prog 9 #[.agg r.cells, .slice B m d, .int .u16 z] W fun e w' => e = .returned (.bool true) ∧ Below W.heap.size W w' := by
  have HALV := Lib.hid alive_any
  obtain ⟨L, hL, hL0, hx, hLs⟩ := rec_world W r
  have hin : r.In 1000 := hr.toIn (by omega) (by omega)
  have hlen := enc_len (hr.toIn hsa hsb) (by decide)
  have hzl := hI.len
  have H10 := Lib.hid (numE_len hr.ns6.1 hr.ns6.2)
  have HNX : Hid ((numE zs.length ++ listE zs).length ≤ 1100) := Lib.hid (by
    have h1 := numE_len (z := zs.length) (by omega) (by omega)
    have h2 := listE_len hI.ran
    rw [List.length_append]; omega)
  have HNP : Hid (0 < (numE zs.length ++ listE zs).length) := Lib.hid (by have := numE_pos zs.length; rw [List.length_append]; omega)
  have HEX := Lib.hid hlen
  have hci : (r.sa.size : Int) ≤ 60 := by omega
  have hcj : (r.sb.size : Int) ≤ 60 := by omega
  have hmi : (m : Int) ≤ 60 := by omega
  have HR := Lib.hid hr; have HI := Lib.hid hI; have HIN := Lib.hid hin; have HZ := Lib.hid hz; have HZL := Lib.hid hzl
  have HL0 := Lib.hid hL0; have HX := Lib.hid hx; have HG : Hid (W.heap.size < L.heap.size) := Lib.hid (by omega)
  have HC : Hid (∀ w', Below L.heap.size L w' → _) := Lib.hid (fun w' (h : Below L.heap.size L w') => (hx.below h (by omega)).cells)
  obtain ⟨k0, k1, k2, k3, k4, k5, k6, k7, k8, k9, k10, k11⟩ := hx.cells
  unfold Rc.cells at hL ⊢
  clear hr hI hin hlen hzl hsa hsb hL0 hx hLs hm
  go_enter Try.func9, Try.ntmps9
  go_upto_region 3 with fail
  go_region_held3 (fun w' => w'.cell? ⟨W.heap.size, 0, none⟩ = some (.int .i64 r.s0) ∧ w'.cell? ⟨W.heap.size, 1, none⟩ = some (.int .i64 r.s1) ∧ w'.cell? ⟨W.heap.size, 2, none⟩ = some (.int .i64 r.s2) ∧ w'.cell? ⟨W.heap.size, 3, none⟩ = some (.string r.sa) ∧ w'.cell? ⟨W.heap.size, 4, none⟩ = some (.string r.sb) ∧ w'.cell? ⟨W.heap.size, 5, none⟩ = some (.int .i64 r.s5) ∧ w'.cell? ⟨W.heap.size, 6, none⟩ = some (.int .i64 r.s6) ∧ w'.cell? ⟨W.heap.size, 7, none⟩ = some (.int .i64 r.s7) ∧ w'.cell? ⟨W.heap.size, 8, none⟩ = some (.int .i64 r.s8) ∧ w'.cell? ⟨W.heap.size, 9, none⟩ = some (.bool r.b9) ∧ w'.cell? ⟨W.heap.size, 10, none⟩ = some (.int .i64 r.s10) ∧ w'.cell? ⟨W.heap.size, 11, none⟩ = some (.bool r.b11)) (go_keep)
    (first
      | (go_at_call 12; refine (putNum_nil r.s6 HR.out.ns6).mono ?_; rintro e w1 ⟨v1, rfl, ho1, hb1⟩; have HB1 := Lib.hid (drew_below hb1); have HO1 := Lib.hid ho1; obtain ⟨k0, k1, k2, k3, k4, k5, k6, k7, k8, k9, k10, k11⟩ := HC.out _ HB1.out; clear ho1 hb1)
      | (go_at_call 28; refine (putNums_nil (HI.out.below (HL0.out.trans (HB1.out.mono HL0.out.size))) (by omega)).mono ?_; rintro e w2 ⟨v2, rfl, ho2, hb2⟩; have HB2 := Lib.hid (HB1.out.trans (hb2.mono HB1.out.size)); have HO1 := Lib.hid (HO1.out.kept hb2); have HO2 := Lib.hid ho2; obtain ⟨k0, k1, k2, k3, k4, k5, k6, k7, k8, k9, k10, k11⟩ := HC.out _ HB2.out; clear ho2 hb2)
      | (go_at_call 26; refine (putRec_nil HIN.out).mono ?_; rintro e w3 ⟨v3, rfl, ho3, hb3⟩; have HB3 := Lib.hid (HB2.out.trans (hb3.mono HB2.out.size)); have HO1 := Lib.hid (HO1.out.kept hb3); have HO2 := Lib.hid (HO2.out.kept hb3); have HO3 := Lib.hid ho3; obtain ⟨k0, k1, k2, k3, k4, k5, k6, k7, k8, k9, k10, k11⟩ := HC.out _ HB3.out; clear ho3 hb3))
  obtain ⟨A1, m1, c1, rfl, hm1, y1⟩ := HO1.out.bytm
  obtain ⟨A2, m2, c2, rfl, hm2, y2⟩ := HO2.out.bytm
  obtain ⟨A3, m3, c3, rfl, hm3, y3⟩ := HO3.out.bytm
  have p1 : 0 < m1 := by have := hm1.out; have := numE_pos r.s6; omega
  have p2 : 0 < m2 := by have := hm2.out; have := HNP.out; omega
  have p3 : 0 < m3 := by have := hm3.out; have := enc_pos r; omega
  obtain ⟨q1, e1, l1⟩ := mod_at HZ.out.1 p1
  obtain ⟨q2, e2, l2⟩ := mod_at HZ.out.1 p2
  obtain ⟨q3, e3, l3⟩ := mod_at HZ.out.1 p3
  have b1 : (m1 : Int) ≤ 10 := by have := hm1.out; have := H10.out; omega
  have b2 : (m2 : Int) ≤ 1100 := by have := hm2.out; have := HNX.out; omega
  have b3 : (m3 : Int) ≤ 240 := by have := hm3.out; have := HEX.out; omega
  have n1 : (0 : Int) < (m1 : Int) := by omega
  have n2 : (0 : Int) < (m2 : Int) := by omega
  have n3 : (0 : Int) < (m3 : Int) := by omega
  have z1 : ((m1 : Int) == 0) = false := by simp; omega
  have z2 : ((m2 : Int) == 0) = false := by simp; omega
  have z3 : ((m3 : Int) == 0) = false := by simp; omega
  have g1 := y1.cap; have g2 := y2.cap; have g3 := y3.cap
  have i1 : (q1 : Int) ≤ (m1 : Int) := by omega
  have i2 : (q2 : Int) ≤ (m2 : Int) := by omega
  have i3 : (q3 : Int) ≤ (m3 : Int) := by omega
  have T1 := Lib.hid (byt_take y1 q1 (by omega)); have T2 := Lib.hid (byt_take y2 q2 (by omega)); have T3 := Lib.hid (byt_take y3 q3 (by omega))
  have Q1 : Hid (q1 < (numE r.s6).length) := Lib.hid (by have := hm1.out; omega)
  have Q2 : Hid (q2 < (numE zs.length ++ listE zs).length) := Lib.hid (by have := hm2.out; omega)
  have Q3 : Hid (q3 < r.enc.length) := Lib.hid (by have := hm3.out; omega)
  have V1 : Hid (q1 ≤ 1000000000) := Lib.hid (by omega)
  have V2 : Hid (q2 ≤ 1000000000) := Lib.hid (by omega)
  have V3 : Hid (q3 ≤ 1000000000) := Lib.hid (by omega)
  clear k0 k1 k2 k3 k4 k5 k6 k7 k8 k9 k10 k11 y1 y2 y3
  go_wp2_with (first
    | (go_at_call 15; refine (codNum_cut T1.out V1.out HR.out.ns6 Q1.out).mono ?_; rintro e w4 ⟨v4, rfl, ho4, hb4⟩; obtain ⟨A4, m4, c4, rfl, hm4, -⟩ := ho4.bytm; obtain rfl : m4 = 0 := hm4.out; have HB4 := Lib.hid (HB3.out.trans (hb4.mono HB3.out.size)); have T2 := Lib.hid (T2.out.below hb4); have T3 := Lib.hid (T3.out.below hb4); clear ho4 hb4)
    | (go_at_call 17; refine (codNums_cut T2.out V2.out (by have := HZL.out; omega) HI.out.ran Q2.out).mono ?_; rintro e w5 ⟨u5, v5, rfl, hi5, ho5, hb5⟩; obtain ⟨A5, m5, c5, rfl, hm5, -⟩ := ho5.bytm; obtain rfl : m5 = 0 := hm5.out; obtain ⟨A6, c6, rfl, -⟩ := hi5.rows (m := 0) rfl; have HB5 := Lib.hid (HB4.out.trans (hb5.mono HB4.out.size)); have T3 := Lib.hid (T3.out.below hb5); clear ho5 hb5 hi5)
    | (go_at_call 24; have hD := codRec_cut T3.out V3.out HIN.out Q3.out; simp only [Rc.cells, rc0] at hD; refine hD.mono ?_; rintro e w6 ⟨v6, rfl, ho6, hb6⟩; obtain ⟨A7, m7, c7, rfl, hm7, -⟩ := ho6.bytm; obtain rfl : m7 = 0 := hm7.out; have HB6 := Lib.hid (HB5.out.trans (hb6.mono HB5.out.size)); clear ho6 hb6 hD)
    | (go_at_call 14; refine (HALV.out _).mono ?_; rintro e w12 ⟨rfl, hb12⟩))
  go_ret
  exact ⟨rfl, HL0.out.trans ((alloc_then HB6.out hb12).mono HL0.out.size)⟩

set_option maxRecDepth 100000 in
set_option maxHeartbeats 4000000 in
theorem walkCodecCut (r : Rc) (B : Option Addr) (m d : Nat) (zs : List Int) (z : Int) (W : World) (hr : r.Nums) (h1 : IsRow .i64 W B m d zs) (hz : (Lit.int .u16 z).wf = true) :
    Calls Try.prog 9 #[.agg r.cells, .slice B m d, .int .u16 z] W fun e w' => e = .returned (.bool true) ∧ Below W.heap.size W w' := by
  by_cases hg : r.sa.size ≤ 60 ∧ r.sb.size ≤ 60 ∧ m ≤ 60
  · exact cutGood r B m d _ z W hr (ints_of_row h1) (by simpa [Lit.wf, IntKind.min, IntKind.max, IntKind.signed, IntKind.bits] using hz) hg.1 hg.2.1 hg.2.2
  · have HALV := Lib.hid alive_any
    obtain ⟨L, hL, hL0, hx, hLs⟩ := rec_world W r
    have HL0 := Lib.hid hL0
    obtain ⟨k0, k1, k2, k3, k4, k5, k6, k7, k8, k9, k10, k11⟩ := hx.cells
    unfold Rc.cells at hL ⊢
    clear hr h1 hz hL0 hx hLs
    by_cases g1 : (60 : Int) < (r.sa.size : Int)
    · clear hg
      go_enter Try.func9, Try.ntmps9
      go_wp2_with (go_at_call 14; refine (HALV.out _).mono ?_; rintro e w12 ⟨rfl, hb12⟩)
      go_ret
      exact ⟨rfl, HL0.out.trans (hb12.mono HL0.out.size)⟩
    · by_cases g2 : (60 : Int) < (r.sb.size : Int)
      · clear hg
        go_enter Try.func9, Try.ntmps9
        go_wp2_with (go_at_call 14; refine (HALV.out _).mono ?_; rintro e w12 ⟨rfl, hb12⟩)
        go_ret
        exact ⟨rfl, HL0.out.trans (hb12.mono HL0.out.size)⟩
      · have g3 : (60 : Int) < (m : Int) := by omega
        clear hg
        go_enter Try.func9, Try.ntmps9
        go_wp2_with (go_at_call 14; refine (HALV.out _).mono ?_; rintro e w12 ⟨rfl, hb12⟩)
        go_ret
        exact ⟨rfl, HL0.out.trans (hb12.mono HL0.out.size)⟩
end Go.Proofs.Ytlcjpnagjiemiaa
