/- Walk of the law CodecBack. -/
import Derived.Test.YtlcjpnagjiemiaaRows
import Derived.Test.YtlcjpnagjiemiaaCdH
import Derived.Deep.Cut
namespace Go.Proofs.Ytlcjpnagjiemiaa
open Go.RowKit

set_option maxRecDepth 100000 in
set_option maxHeartbeats 16000000 in
theorem backGood (r : Rc) (B : Option Addr) (m d : Nat) (zs : List Int) (A : Option Addr) (n c : Nat) (t : List Int) (W : World) (hr : r.Nums) (hA : Byt W A n c t) (hI : Ints W B m d zs) (hsa : r.sa.size ≤ 100) (hsb : r.sb.size ≤ 100) (hm : m ≤ 100) (hn : n ≤ 100) :
    Calls Try.prog 7 #[.agg r.cells, .slice B m d, .slice A n c] W fun e w' => e = .returned (.bool true) ∧ Below W.heap.size W w' := by
  obtain ⟨i0, hi0, hz0, hz1, hz2⟩ := info_parts byteInfo
  have HALV := Lib.hid alive_any
  obtain ⟨L, hL, hL0, hx, hLs⟩ := rec_world W r
  have hin : r.In 1000 := hr.toIn (by omega) (by omega)
  have hlen := enc_len (hr.toIn hsa hsb) (by decide)
  have htl := hA.len
  have hzl := hI.len
  have H10 := Lib.hid (numE_len hr.ns5.1 hr.ns5.2)
  have HTX := Lib.hid (txtE_len (s := r.sa) (by omega))
  have HNX : Hid ((numE zs.length ++ listE zs).length ≤ 1100) := Lib.hid (by
    have h1 := numE_len (z := zs.length) (by omega) (by omega)
    have h2 := listE_len hI.ran
    rw [List.length_append]; omega)
  have HEX := Lib.hid hlen
  have hci : (r.sa.size : Int) ≤ 100 := by omega
  have hcj : (r.sb.size : Int) ≤ 100 := by omega
  have hmi : (m : Int) ≤ 100 := by omega
  have hni : (n : Int) ≤ 100 := by omega
  have HR := Lib.hid hr; have HA := Lib.hid hA; have HI := Lib.hid hI; have HIN := Lib.hid hin; have HSA := Lib.hid hsa; have HTL := Lib.hid htl
  have HL0 := Lib.hid hL0; have HX := Lib.hid hx; have HG : Hid (W.heap.size < L.heap.size) := Lib.hid (by omega)
  obtain ⟨k0, k1, k2, k3, k4, k5, k6, k7, k8, k9, k10, k11⟩ := hx.cells
  unfold Rc.cells at hL ⊢
  clear hr hA hI hin hlen htl hzl hsa hsb hL0 hx hLs hm hn
  go_enter Try.func7, Try.ntmps7
  go_upto_region 7 with (first
    | (go_at_call 12; refine (putNum_nil r.s5 HR.out.ns5).mono ?_; rintro e w1a ⟨va1, rfl, hoa, hba⟩; have HOA1 := Lib.hid hoa; have HBA1 := Lib.hid hba; have HTA1 := Lib.hid (HA.out.below (HL0.out.trans (((Below.refl L.heap.size L).trans (hba.mono (Below.refl L.heap.size L).size)).mono HL0.out.size))); clear hoa hba)
    | (at_builtin; refine wpList_append_has rfl (.tmp 43) (.tmp 44) 22 rfl L.heap.size 5 i0 (.int .u8 0) 1 Try.underlying22 hi0 hz0 hz1 hz2 rfl _ _ _ rfl HOA1.out.1 _ _ _ _ rfl HTA1.out.has (by have := H10.out; unfold maxLen; omega) (by have := H10.out; omega) HBA1.out.size ?_; intro vb1 w1b hownb hgb; have hbb := HBA1.out.grown hgb HBA1.out.size (fun g hg' => (World.ownsRow.lt HOA1.out.1 g hg').1); obtain ⟨A1, m1, c1, rfl, hm1, y1⟩ := (glue hownb HTL.out (numE_byte _) HA.out.ran).bytm; have Y1 := Lib.hid y1; have M1 : Hid (m1 ≤ 1000000) := Lib.hid (by have h1 := hm1.out; have h2 := H10.out; have h3 := HTL.out; rw [List.length_append] at h1; omega); have HBP1 := Lib.hid hbb; have HBB1 := Lib.hid ((Below.refl L.heap.size L).trans (hbb.mono (Below.refl L.heap.size L).size)); clear hownb hgb hbb y1)
    | (go_at_call 15; refine (codNum_back Y1.out (by have := M1.out; omega) HR.out.ns5).mono ?_; rintro e w1c ⟨v1, rfl, ho1, hb1⟩; have HO1 := Lib.hid ho1; have HC1 := Lib.hid (HBB1.out.trans (hb1.mono HBB1.out.size)); have LK1 := Lib.hid (HBP1.out.trans (hb1.mono HBP1.out.size)); obtain ⟨k0, k1, k2, k3, k4, k5, k6, k7, k8, k9, k10, k11⟩ := (HX.out.below HC1.out HG.out).cells; clear ho1 hb1)
    | (go_at_call 22; refine (putTxt_nil r.sa (by have := HSA.out; omega)).mono ?_; rintro e w2a ⟨va2, rfl, hoa, hba⟩; have HOA2 := Lib.hid hoa; have HBA2 := Lib.hid hba; have HTA2 := Lib.hid (HA.out.below (HL0.out.trans ((HC1.out.trans (hba.mono HC1.out.size)).mono HL0.out.size))); clear hoa hba)
    | (at_builtin; refine wpList_append_has rfl (.tmp 53) (.tmp 54) 22 rfl w1c.heap.size 5 i0 (.int .u8 0) 1 Try.underlying22 hi0 hz0 hz1 hz2 rfl _ _ _ rfl HOA2.out.1 _ _ _ _ rfl HTA2.out.has (by have := HTX.out; unfold maxLen; omega) (by have := HTX.out; omega) HBA2.out.size ?_; intro vb2 w2b hownb hgb; have hbb := HBA2.out.grown hgb HBA2.out.size (fun g hg' => (World.ownsRow.lt HOA2.out.1 g hg').1); obtain ⟨A2, m2, c2, rfl, hm2, y2⟩ := (glue hownb HTL.out (ran_app (numE_byte _) (strB_ran _)) HA.out.ran).bytm; have Y2 := Lib.hid y2; have M2 : Hid (m2 ≤ 1000000) := Lib.hid (by have h1 := hm2.out; have h2 := HTX.out; have h3 := HTL.out; rw [List.length_append] at h1; omega); have HBP2 := Lib.hid hbb; have HBB2 := Lib.hid (HC1.out.trans (hbb.mono HC1.out.size)); clear hownb hgb hbb y2)
    | (go_at_call 20; refine (codTxt_back Y2.out (by have := M2.out; omega) (by have := HSA.out; omega)).mono ?_; rintro e w2c ⟨v2, rfl, ho2, hb2⟩; have HO2 := Lib.hid ho2; have HC2 := Lib.hid (HBB2.out.trans (hb2.mono HBB2.out.size)); have LK2 := Lib.hid (HBP2.out.trans (hb2.mono HBP2.out.size)); obtain ⟨k0, k1, k2, k3, k4, k5, k6, k7, k8, k9, k10, k11⟩ := (HX.out.below HC2.out HG.out).cells; clear ho2 hb2)
    | (go_at_call 28; refine (putNums_nil (HI.out.below (HL0.out.trans (HC2.out.mono HL0.out.size))) (by omega)).mono ?_; rintro e w3a ⟨va3, rfl, hoa, hba⟩; have HOA3 := Lib.hid hoa; have HBA3 := Lib.hid hba; have HTA3 := Lib.hid (HA.out.below (HL0.out.trans ((HC2.out.trans (hba.mono HC2.out.size)).mono HL0.out.size))); clear hoa hba)
    | (at_builtin; refine wpList_append_has rfl (.tmp 62) (.tmp 63) 22 rfl w2c.heap.size 5 i0 (.int .u8 0) 1 Try.underlying22 hi0 hz0 hz1 hz2 rfl _ _ _ rfl HOA3.out.1 _ _ _ _ rfl HTA3.out.has (by have := HNX.out; unfold maxLen; omega) (by have := HNX.out; omega) HBA3.out.size ?_; intro vb3 w3b hownb hgb; have hbb := HBA3.out.grown hgb HBA3.out.size (fun g hg' => (World.ownsRow.lt HOA3.out.1 g hg').1); obtain ⟨A3, m3, c3, rfl, hm3, y3⟩ := (glue hownb HTL.out (ran_app (numE_byte _) (listE_byte _)) HA.out.ran).bytm; have Y3 := Lib.hid y3; have M3 : Hid (m3 ≤ 1000000) := Lib.hid (by have h1 := hm3.out; have h2 := HNX.out; have h3 := HTL.out; rw [List.length_append] at h1; omega); have HBP3 := Lib.hid hbb; have HBB3 := Lib.hid (HC2.out.trans (hbb.mono HC2.out.size)); clear hownb hgb hbb y3)
    | (go_at_call 17; refine (codNums_back Y3.out (by have := M3.out; omega) (by have := HI.out.len; omega) HI.out.ran).mono ?_; rintro e w3c ⟨u3, v3, rfl, hi3, ho3, hb3⟩; have HO3 := Lib.hid ho3; have HC3 := Lib.hid (HBB3.out.trans (hb3.mono HBB3.out.size)); have LK3 := Lib.hid (HBP3.out.trans (hb3.mono HBP3.out.size)); have HI3 := Lib.hid hi3; clear hi3; obtain ⟨k0, k1, k2, k3, k4, k5, k6, k7, k8, k9, k10, k11⟩ := (HX.out.below HC3.out HG.out).cells; clear ho3 hb3)
    | (go_at_call 26; refine (putRec_nil HIN.out).mono ?_; rintro e w4a ⟨va4, rfl, hoa, hba⟩; have HOA4 := Lib.hid hoa; have HBA4 := Lib.hid hba; have HTA4 := Lib.hid (HA.out.below (HL0.out.trans ((HC3.out.trans (hba.mono HC3.out.size)).mono HL0.out.size))); clear hoa hba)
    | (at_builtin; refine wpList_append_has rfl (.tmp 71) (.tmp 72) 22 rfl w3c.heap.size 5 i0 (.int .u8 0) 1 Try.underlying22 hi0 hz0 hz1 hz2 rfl _ _ _ rfl HOA4.out.1 _ _ _ _ rfl HTA4.out.has (by have := HEX.out; unfold maxLen; omega) (by have := HEX.out; omega) HBA4.out.size ?_; intro vb4 w4b hownb hgb; have hbb := HBA4.out.grown hgb HBA4.out.size (fun g hg' => (World.ownsRow.lt HOA4.out.1 g hg').1); obtain ⟨A4, m4, c4, rfl, hm4, y4⟩ := (glue hownb HTL.out enc_byte HA.out.ran).bytm; have Y4 := Lib.hid y4; have M4 : Hid (m4 ≤ 1000000) := Lib.hid (by have h1 := hm4.out; have h2 := HEX.out; have h3 := HTL.out; rw [List.length_append] at h1; omega); have HBP4 := Lib.hid hbb; have HBB4 := Lib.hid (HC3.out.trans (hbb.mono HC3.out.size)); clear hownb hgb hbb y4)
    | (go_at_call 24; have hD := (codRec_back Y4.out (by have := M4.out; omega) HIN.out); simp only [Rc.cells] at hD; refine hD.mono ?_; rintro e w4c ⟨v4, rfl, ho4, hb4⟩; have HO4 := Lib.hid ho4; have HC4 := Lib.hid (HBB4.out.trans (hb4.mono HBB4.out.size)); have LK4 := Lib.hid (HBP4.out.trans (hb4.mono HBP4.out.size)); obtain ⟨k0, k1, k2, k3, k4, k5, k6, k7, k8, k9, k10, k11⟩ := (HX.out.below HC4.out HG.out).cells; clear ho4 hb4))
  obtain ⟨w9, hw9, hb9, hx9, hs9⟩ := rec_world w4c r
  replace hs9 : w4c.heap.size < w9.heap.size := by omega
  unfold Rc.cells at hw9
  rw [hw9]
  have hB9 : Below L.heap.size L w9 := HC4.out.trans (hb9.mono HC4.out.size)
  obtain ⟨k0, k1, k2, k3, k4, k5, k6, k7, k8, k9, k10, k11⟩ := (HX.out.below hB9 HG.out).cells
  obtain ⟨j0, j1, j2, j3, j4, j5, j6, j7, j8, j9, j10, j11⟩ := hx9.cells
  have hb41 : Below w1c.heap.size w1c w9 := (LK2.out.trans (LK3.out.mono LK2.out.size)).trans ((LK4.out.trans (hb9.mono LK4.out.size)).mono (Nat.le_trans LK2.out.size LK3.out.size))
  have hb42 : Below w2c.heap.size w2c w9 := LK3.out.trans ((LK4.out.trans (hb9.mono LK4.out.size)).mono LK3.out.size)
  have hb43 : Below w3c.heap.size w3c w9 := LK4.out.trans (hb9.mono LK4.out.size)
  obtain ⟨E1, n1, d1, rfl, hn1, z1⟩ := (HO1.out.kept hb41).bytm
  obtain ⟨E2, n2, d2, rfl, hn2, z2⟩ := (HO2.out.kept hb42).bytm
  obtain ⟨E3, n3, d3, rfl, hn3, z3⟩ := (HO3.out.kept hb43).bytm
  obtain ⟨E4, n4, d4, rfl, hn4, z4⟩ := (HO4.out.kept hb9).bytm
  have zt := HA.out.below (HL0.out.trans (hB9.mono HL0.out.size))
  obtain ⟨E5, d5, rfl, i5⟩ := (HI3.out.below hb43).rows HI.out.len
  have HQ := Lib.hid (sameInts_yes' (c := d5) (d := d) (by omega) i5 (HI.out.below (HL0.out.trans (hB9.mono HL0.out.size))).cells)
  have HB9 := Lib.hid hB9
  have hx9' := Lib.hid hx9; have hg9 : Hid (w4c.heap.size < w9.heap.size) := Lib.hid hs9
  clear hB9 hb9 hb41 hb42 hb43 i5 hx9 hs9
  clear HC1 HC2 HC3 HBB1 HBB2 HBB3 HBB4 HOA1 HOA2 HOA3 HOA4 HBA1 HBA2 HBA3 HBA4
  go_wp2_with (first
    | (go_at_call 19; refine HQ.out.mono ?_; rintro e w10 ⟨rfl, hb10⟩; have y1 := z1.below hb10; have y2 := z2.below hb10; have y3 := z3.below hb10; have y4 := z4.below hb10; have yt := zt.below hb10; have HB10 := Lib.hid (HB9.out.trans (hb10.mono HB9.out.size)); obtain ⟨k0, k1, k2, k3, k4, k5, k6, k7, k8, k9, k10, k11⟩ := (HX.out.below HB10.out HG.out).cells; obtain ⟨j0, j1, j2, j3, j4, j5, j6, j7, j8, j9, j10, j11⟩ := (hx9'.out.below hb10 hg9.out).cells; clear hb10 z1 z2 z3 z4 zt)
    | (go_at_call 11; refine (same_yes (by assumption) (by assumption) (by rfl)).mono ?_; rintro e w11 ⟨rfl, rfl⟩)
    | (go_at_call 14; refine (HALV.out _).mono ?_; rintro e w12 ⟨rfl, hb12⟩))
  go_ret
  exact ⟨rfl, HL0.out.trans ((HB10.out.trans (hb12.mono HB10.out.size)).mono HL0.out.size)⟩

set_option maxRecDepth 100000 in
set_option maxHeartbeats 4000000 in
theorem walkCodecBack (r : Rc) (B : Option Addr) (m d : Nat) (zs : List Int) (A : Option Addr) (n c : Nat) (ts : List Int) (W : World) (hr : r.Nums) (h1 : IsRow .i64 W B m d zs) (h2 : IsRow .u8 W A n c ts) :
    Calls Try.prog 7 #[.agg r.cells, .slice B m d, .slice A n c] W fun e w' => e = .returned (.bool true) ∧ Below W.heap.size W w' := by
  by_cases hg : r.sa.size ≤ 100 ∧ r.sb.size ≤ 100 ∧ m ≤ 100 ∧ n ≤ 100
  · exact backGood r B m d _ A n c _ W hr (byt_of_row h2) (ints_of_row h1) hg.1 hg.2.1 hg.2.2.1 hg.2.2.2
  · have HALV := Lib.hid alive_any
    obtain ⟨L, hL, hL0, hx, hLs⟩ := rec_world W r
    have HL0 := Lib.hid hL0
    obtain ⟨k0, k1, k2, k3, k4, k5, k6, k7, k8, k9, k10, k11⟩ := hx.cells
    unfold Rc.cells at hL ⊢
    clear hr h1 h2 hL0 hx hLs
    by_cases g1 : (100 : Int) < (r.sa.size : Int)
    · clear hg
      go_enter Try.func7, Try.ntmps7
      go_wp2_with (go_at_call 14; refine (HALV.out _).mono ?_; rintro e w12 ⟨rfl, hb12⟩)
      go_ret
      exact ⟨rfl, HL0.out.trans (hb12.mono HL0.out.size)⟩
    · by_cases g2 : (100 : Int) < (r.sb.size : Int)
      · clear hg
        go_enter Try.func7, Try.ntmps7
        go_wp2_with (go_at_call 14; refine (HALV.out _).mono ?_; rintro e w12 ⟨rfl, hb12⟩)
        go_ret
        exact ⟨rfl, HL0.out.trans (hb12.mono HL0.out.size)⟩
      · by_cases g3 : (100 : Int) < (m : Int)
        · clear hg
          go_enter Try.func7, Try.ntmps7
          go_wp2_with (go_at_call 14; refine (HALV.out _).mono ?_; rintro e w12 ⟨rfl, hb12⟩)
          go_ret
          exact ⟨rfl, HL0.out.trans (hb12.mono HL0.out.size)⟩
        · have g4 : (100 : Int) < (n : Int) := by omega
          clear hg
          go_enter Try.func7, Try.ntmps7
          go_wp2_with (go_at_call 14; refine (HALV.out _).mono ?_; rintro e w12 ⟨rfl, hb12⟩)
          go_ret
          exact ⟨rfl, HL0.out.trans (hb12.mono HL0.out.size)⟩
end Go.Proofs.Ytlcjpnagjiemiaa
