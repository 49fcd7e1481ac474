/- Walk of the reference: which tariffs are small. -/
import Derived.Test.YtpkmnefbofhjbaaGreatCkO
import Derived.Test.YtpkmnefbofhjbaaGreatCkN
namespace Go.Proofs.YtpkmnefbofhjbaaGreat.Ck
open Go Go.Lib Go.RowKit Go.Proofs.YtpkmnefbofhjbaaGreat Go.Maps

/-- The lists in the lists of a tariff lie within reach. -/
structure TfB (t : Tf) : Prop where
  z : ∀ z ∈ t.zl, z.ps.length ≤ 10000000000000
  b : ∀ b ∈ t.bl, b.2.length ≤ 10000000000000
  r : ∀ r ∈ t.rl, r.st.length ≤ 10000000000000
  s : ∀ r ∈ t.rl, r.bn.size ≤ maxLen
theorem mem_getD {α : Type} {l : List α} {d : α} {k : Nat} (h : k < l.length) : l.getD k d ∈ l := by
  rw [List.getD_eq_getElem?_getD, List.getElem?_eq_getElem h]; exact List.getElem_mem h
theorem smallE_is {op num : Int} {tx : ByteArray} {args : List Ex} {v : Bool} (h : sml (.mk op num tx args) = v) (A : Option Addr) (d n c : Nat) (w : World) (hA : XA w d A args) (hn : args.length = n) (hc : n ≤ c) (hm : c ≤ maxLen) (ht : tx.size ≤ maxLen) :
    Calls Tryz.prog 26 #[.agg #[.int .i64 op, .int .i64 num, .string tx, .slice A n c]] w fun e w' => e = .returned (.bool v) ∧ Below w.heap.size w w' := by
  subst h; exact small_any d op num tx args A n c w hA hn hc hm ht
def SmOut (t : Tf) (w : World) (e : Ending) (w' : World) : Prop := ∃ v, e = .returned (.bool v) ∧ (v = true → (∀ z ∈ t.zl, z.ps.length ≤ 300) ∧ t.zn ≤ 70 ∧ t.rn ≤ 70 ∧ t.dn ≤ 70) ∧ Below w.heap.size w w'
theorem SmOut.no {t : Tf} {w w' : World} (h : Below w.heap.size w w') : SmOut t w (.returned (.bool false)) w' := ⟨false, rfl, (fun h => by cases h), h⟩
theorem len_ways (z b r d : Bool) : z = true ∨ (z = false ∧ b = true) ∨ (z = false ∧ b = false ∧ r = true) ∨ (z = false ∧ b = false ∧ r = false ∧ d = true) ∨ (z = false ∧ b = false ∧ r = false ∧ d = false) := by
  cases z <;> cases b <;> cases r <;> cases d <;> simp
set_option maxRecDepth 100000 in
set_option maxHeartbeats 32000000 in
theorem smallT_any (t : Tf) (w : World) (hN : TfN t) (hT : TfR w t) (hTB : TfB t) :
    Calls Tryz.prog 12 #[.agg t.cells] w (SmOut t w) := by
  obtain ⟨W1, hW1⟩ : ∃ W, w.alloc (.cells t.cells 32) = W := ⟨_, rfl⟩
  obtain ⟨g, hg⟩ : ∃ g, w.heap.size = g := ⟨_, rfl⟩
  have hbk : Blk W1 g 32 t.cells := hW1 ▸ hg ▸ Blk.new w _ _
  have hb1 : Below w.heap.size w W1 := hW1 ▸ below_one w _
  have HB1 := Lib.hid hb1; have HBK := Lib.hid hbk
  have HT := Lib.hid (hT.below hb1); have HNN := Lib.hid hN; have HTB := Lib.hid hTB
  obtain ⟨T, hTT⟩ : ∃ T, t = T := ⟨_, rfl⟩
  have hc1 := hN.zc; have hc2 := hN.bc; have hc3 := hN.rc; have hc4 := hN.dc
  have hm1 := hN.zm; have hm2 := hN.bm; have hm3 := hN.rm; have hm4 := hN.dm
  unfold maxLen at hm1 hm2 hm3 hm4
  have HZL := Lib.hid hN.zl; have HBL := Lib.hid hN.bl; have HRL := Lib.hid hN.rl; have HDL := Lib.hid hN.dl
  have HZ := Lib.hid (hT.below hb1).z; have HBB := Lib.hid (hT.below hb1).b; have HRR := Lib.hid (hT.below hb1).r; have HDD := Lib.hid (hT.below hb1).d
  have HZB := Lib.hid hTB.z; have HBDB := Lib.hid hTB.b; have HRB := Lib.hid hTB.r
  unfold SmOut
  rw [hTT]
  have HTT := Lib.hid hTT
  clear hTT
  obtain ⟨tnm, tfr, tsp, ZA, zn, zc, zl, BA, bn, bc, bl, RA, rn, rc, rl, DA, dn, dc, dl⟩ := t
  have HTZ : Hid (T.zl = zl) := Lib.hid (by rw [← HTT.out])
  have HTY : Hid (T.zn = zn ∧ T.rn = rn ∧ T.dn = dn) := Lib.hid (by rw [← HTT.out]; exact ⟨rfl, rfl, rfl⟩)
  rw [show T.cells = #[.string tnm, .int .i64 tfr, .bool tsp, .slice ZA zn zc, .slice BA bn bc, .slice RA rn rc, .slice DA dn dc] by rw [← HTT.out]; rfl]
  rw [HTZ.out, HTY.out.1, HTY.out.2.1, HTY.out.2.2]
  simp only [Tf.cells] at HBK hW1 hc1 hc2 hc3 hc4 hm1 hm2 hm3 hm4 HZL HBL HRL HDL HZ HBB HRR HDD HZB HBDB HRB
  obtain ⟨a0, a1, a2, a3, a4, a5, a6⟩ := seven HBK.out
  clear hN hT hTB hbk hb1 HT HNN HTB HTT HTZ HTY
  obtain ⟨x1, hx1⟩ : ∃ v, decide ((70 : Int) < (zn : Int)) = v := ⟨_, rfl⟩
  obtain ⟨x2, hx2⟩ : ∃ v, decide ((70 : Int) < (bn : Int)) = v := ⟨_, rfl⟩
  obtain ⟨x3, hx3⟩ : ∃ v, decide ((70 : Int) < (rn : Int)) = v := ⟨_, rfl⟩
  obtain ⟨x4, hx4⟩ : ∃ v, decide ((70 : Int) < (dn : Int)) = v := ⟨_, rfl⟩
  rcases len_ways x1 x2 x3 x4 with rfl | ⟨rfl, rfl⟩ | ⟨rfl, rfl, rfl⟩ | ⟨rfl, rfl, rfl, rfl⟩ | ⟨rfl, rfl, rfl, rfl⟩
  all_goals
    try (
      go_enter Tryz.func12, Tryz.ntmps12
      go_wp2_with fail
      go_ret
      exact ⟨false, rfl, (fun h => by cases h), HB1.out⟩
      done)
  have hz70 : zn ≤ 70 := by have := of_decide_eq_false hx1; omega
  have hb70 : bn ≤ 70 := by have := of_decide_eq_false hx2; omega
  have hr70 : rn ≤ 70 := by have := of_decide_eq_false hx3; omega
  have hd70 : dn ≤ 70 := by have := of_decide_eq_false hx4; omega
  go_enter Tryz.func12, Tryz.ntmps12
  go_wp2_with fail
  clear hx1 hx2 hx3 hx4
  go_loopw [3, 4] (fun nv iv wr => ∃ (s k : Nat), nv = .int .i64 s ∧ iv = .int .i64 k ∧ k ≤ zn ∧ s ≤ k * 10000000000000 ∧ wr = W1 ∧ Hid (∀ j, j < k → (zl.getD j Zn.zm0).ps.length ≤ s)) (fun _ iv _ => zn - (RowKit.intOf iv).toNat)
  case atStart => exact ⟨0, 0, rfl, rfl, by omega, by omega, rfl, Lib.hid fun j h => absurd h (Nat.not_lt_zero j)⟩
  case round =>
    obtain ⟨s, k, rfl, rfl, hk, hsk, rfl, HO⟩ := hrel
    by_cases hlt : k < zn
    · have hlt' : (k : Int) < (zn : Int) := by omega
      have hkl : k < zl.length := by rw [HZL.out]; exact hlt
      obtain ⟨bk, off, P, c, hAe, hbl, g0, g1, u1, u2, hTs, _⟩ := HZ.out k hkl
      have hzb := HZB.out _ (mem_getD (d := Zn.zm0) hkl)
      obtain ⟨z, hz⟩ : ∃ z, zl.getD k Zn.zm0 = z := ⟨_, rfl⟩
      rw [hz] at g1 hzb hTs u1
      obtain ⟨L, hL⟩ : ∃ L, z.ps.length = L := ⟨_, rfl⟩
      rw [hL] at g1 hzb u1
      have HLL := Lib.hid hL; have HTS := Lib.hid hTs
      have hu2 := u2
      unfold maxLen at hu2
      have HO2 : Hid (∀ j, j < k + 1 → (zl.getD j Zn.zm0).ps.length ≤ s + L) := Lib.hid fun j h => by
        rcases Nat.lt_or_ge j k with h | h
        · exact Nat.le_trans (HO.out j h) (by omega)
        · obtain rfl : j = k := by omega
          rw [hz, hL]; omega
      have hsum : s + L ≤ (k + 1) * 10000000000000 := by omega
      rw [hAe] at a3
      have HAE := Lib.hid hAe
      subst hAe
      clear hz hL hTs g0
      go_wp2_with fail
      go_loopw [5] (fun jv wx => ∃ j : Nat, jv = .int .i64 j ∧ j ≤ L ∧ wx = wr) (fun jv _ => L - (RowKit.intOf jv).toNat)
      case atStart => exact ⟨0, rfl, by omega, by simp⟩
      case round =>
        obtain ⟨j, rfl, hj, rfl⟩ := hrel
        by_cases hjl : j < L
        · have hjl' : (j : Int) < (L : Int) := by omega
          obtain ⟨bp, offp, rfl, hblp, e0⟩ := HTS.out j (by rw [HLL.out]; exact hjl)
          obtain ⟨p, hp⟩ : ∃ p, z.ps.getD j ⟨#[]⟩ = p := ⟨_, rfl⟩
          rw [hp] at e0
          clear hp
          obtain ⟨pv, hpv⟩ : ∃ v, decide ((100 : Int) < (p.size : Int)) = v := ⟨_, rfl⟩
          cases pv
          · go_wp2_with fail
            go_roundw
            case rel => exact ⟨j + 1, by go_num, by omega, by simp⟩
            case measure => simp [RowKit.intOf]; omega
          · go_wp2_with fail
            go_ret
            exact ⟨false, rfl, (fun h => by cases h), HB1.out⟩
        · obtain rfl : j = L := by omega
          have hd : decide ((j : Int) < (j : Int)) = false := decide_eq_false (by omega)
          go_wp2_with fail
          go_roundw
          case rel => exact ⟨s + j, k + 1, by go_num, by go_num, by omega, hsum, by simp, HO2⟩
          case measure => simp [RowKit.intOf]; omega
    · obtain rfl : k = zn := by omega
      have hd : decide ((k : Int) < (k : Int)) = false := decide_eq_false (by omega)
      have HZA : Hid (∀ z ∈ zl, z.ps.length ≤ s) := Lib.hid fun z hz => by
        obtain ⟨j, hj, rfl⟩ := List.mem_iff_getElem.1 hz
        have := HO.out j (by rw [← HZL.out]; exact hj)
        rwa [List.getD_eq_getElem?_getD, List.getElem?_eq_getElem hj] at this
      have hs70 : s ≤ 700000000000000 := by omega
      go_wp2_with fail
      clear hlt hd hk hsk HO
      go_loopw [3, 6] (fun nv iv wx => ∃ (s2 j : Nat), nv = .int .i64 s2 ∧ iv = .int .i64 j ∧ j ≤ bn ∧ s ≤ s2 ∧ s2 ≤ 700000000000000 + j * 10000000000000 ∧ wx = wr) (fun _ iv _ => bn - (RowKit.intOf iv).toNat)
      case atStart => exact ⟨s, 0, rfl, rfl, by omega, by omega, by omega, by simp⟩
      case round =>
        obtain ⟨s2, j, rfl, rfl, hj, hs2, hs2b, rfl⟩ := hrel
        by_cases hlt : j < bn
        · have hlt' : (j : Int) < (bn : Int) := by omega
          have hjl : j < bl.length := by rw [HBL.out]; exact hlt
          obtain ⟨bk, off, S, c, hAe, hbl, g0, g1, u1, u2, _⟩ := HBB.out j hjl
          have hzb := HBDB.out _ (mem_getD (d := bd0) hjl)
          obtain ⟨L, hL⟩ : ∃ L, (bl.getD j bd0).2.length = L := ⟨_, rfl⟩
          rw [hL] at g1 hzb u1
          have hsum : s2 + L ≤ 700000000000000 + (j + 1) * 10000000000000 := by omega
          rw [hAe] at a4
          have HAE := Lib.hid hAe
          subst hAe
          clear hL g0
          go_wp2_with fail
          go_roundw
          case rel => exact ⟨s2 + L, j + 1, by go_num, by go_num, by omega, by omega, hsum, by simp⟩
          case measure => simp [RowKit.intOf]; omega
        · obtain rfl : j = bn := by omega
          have hd : decide ((j : Int) < (j : Int)) = false := decide_eq_false (by omega)
          have hs2c : s2 ≤ 1400000000000000 := by omega
          go_wp2_with fail
          clear hlt hd hj hs2b
          go_loopw [3, 7] (fun nv iv wx => ∃ (s3 i : Nat), nv = .int .i64 s3 ∧ iv = .int .i64 i ∧ i ≤ rn ∧ s ≤ s3 ∧ s3 ≤ 1400000000000000 + i * 10000000000000 ∧ wx = wr) (fun _ iv _ => rn - (RowKit.intOf iv).toNat)
          case atStart => exact ⟨s2, 0, rfl, rfl, by omega, by omega, by omega, by simp⟩
          case round =>
            obtain ⟨s3, i, rfl, rfl, hi, hs3, hs3b, rfl⟩ := hrel
            by_cases hlt : i < rn
            · have hlt' : (i : Int) < (rn : Int) := by omega
              have hil : i < rl.length := by rw [HRL.out]; exact hlt
              obtain ⟨bk, off, S, c, hAe, hbl, g0, g1, g2, g3, g4, u1, u2, _⟩ := HRR.out i hil
              have hzb := HRB.out _ (mem_getD (d := rt0) hil)
              obtain ⟨L, hL⟩ : ∃ L, (rl.getD i rt0).st.length = L := ⟨_, rfl⟩
              rw [hL] at g4 hzb u1
              have hsum : s3 + L ≤ 1400000000000000 + (i + 1) * 10000000000000 := by omega
              rw [hAe] at a5
              have HAE := Lib.hid hAe
              subst hAe
              clear hL g0 g1 g2 g3
              go_wp2_with fail
              go_roundw
              case rel => exact ⟨s3 + L, i + 1, by go_num, by go_num, by omega, by omega, hsum, by simp⟩
              case measure => simp [RowKit.intOf]; omega
            · obtain rfl : i = rn := by omega
              have hd : decide ((i : Int) < (i : Int)) = false := decide_eq_false (by omega)
              have hs3c : s3 ≤ 2100000000000000 := by omega
              go_wp2_with fail
              clear hlt hd hi hs3b
              obtain ⟨W0, hW0⟩ : ∃ W, W = wr := ⟨_, rfl⟩
              rw [← hW0] at HB1 HBK HDD ⊢
              clear hW0
              clear a0 a1 a2 a3 a4 a5 a6 HZ HBB HRR
              go_loopw [8] (fun iv wx => ∃ (q : Nat), iv = .int .i64 q ∧ q ≤ dn ∧ Below W0.heap.size W0 wx) (fun iv _ => dn - (RowKit.intOf iv).toNat)
              case atStart => exact ⟨0, rfl, by omega, Below.refl _ _⟩
              case round =>
                obtain ⟨q, rfl, hq, hb⟩ := hrel
                have hsz := hb.size
                obtain ⟨a0, a1, a2, a3, a4, a5, a6⟩ := seven (HBK.out.below hb HBK.out.lt)
                by_cases hlt : q < dn
                · have hlt' : (q : Int) < (dn : Int) := by omega
                  obtain ⟨bk, off, S, c, d, hAe, hbl, g0, g1, g2, g3, g4, g5, u1, u2, u3, u4, u5⟩ := HDD.out q (by rw [HDL.out]; exact hlt)
                  have e1 := (hb.cell (p := ⟨bk, off + q * 6 + 1, none⟩) hbl).trans g1
                  have e2 := (hb.cell (p := ⟨bk, off + q * 6 + 2, none⟩) hbl).trans g2
                  have e3 := (hb.cell (p := ⟨bk, off + q * 6 + 3, none⟩) hbl).trans g3
                  have e4 := (hb.cell (p := ⟨bk, off + q * 6 + 4, none⟩) hbl).trans g4
                  obtain ⟨x, hr⟩ : ∃ r, dl.getD q dc0 = r := ⟨_, rfl⟩
                  rw [hr] at e1 e2 e3 e4 u1 u3 u5
                  obtain ⟨m, hm2'⟩ : ∃ m, x.us.length = m := ⟨_, rfl⟩
                  rw [hm2'] at e4 u1
                  obtain ⟨vs, hvs⟩ : ∃ v, sml (.mk x.op x.num x.tx x.us) = v := ⟨_, rfl⟩
                  have HSE := Lib.hid (smallE_is hvs S d m c wr (u3.below hb) hm2' u1 u2 u5)
                  rw [hAe] at a6
                  have HAE := Lib.hid hAe
                  subst hAe
                  clear g0 g1 g2 g3 g4 g5 u1 u2 u3 u4 u5 hr hm2' hvs
                  cases vs
                  · go_wp2_with (go_at_call 26; (with_reducible refine HSE.out.mono ?_); rintro e w6 ⟨rfl, hb6⟩; have HB6 := Lib.hid (hb.trans (hb6.mono hsz)); clear hb6)
                    go_ret
                    exact ⟨false, rfl, (fun h => by cases h), HB1.out.trans (HB6.out.mono HB1.out.size)⟩
                  · go_wp2_with (go_at_call 26; (with_reducible refine HSE.out.mono ?_); rintro e w6 ⟨rfl, hb6⟩; have HB6 := Lib.hid (hb.trans (hb6.mono hsz)); clear hb6 a0 a1 a2 a3 a4 a5 a6 e1 e2 e3 e4)
                    go_roundw
                    case rel => exact ⟨q + 1, by go_num, by omega, HB6.out⟩
                    case measure => simp [RowKit.intOf]; omega
                · obtain rfl : q = dn := by omega
                  have hd : decide ((q : Int) < (q : Int)) = false := decide_eq_false (by omega)
                  obtain ⟨v, hv⟩ : ∃ v, decide ((s3 : Int) ≤ 300) = v := ⟨_, rfl⟩
                  go_wp2_with fail
                  go_ret
                  refine ⟨v, rfl, fun h => ⟨?_, hz70, hr70, hd70⟩, HB1.out.trans (hb.mono HB1.out.size)⟩
                  intro z hz
                  have h3 : (s3 : Int) ≤ 300 := of_decide_eq_true (hv.trans h)
                  have := HZA.out z hz
                  omega
end Go.Proofs.YtpkmnefbofhjbaaGreat.Ck
