/- Walk of the reference: a period is cut at the limits of bands, the loops. -/
import Derived.Test.YtpbohnlfiaigjaaBdRCut
namespace Go.Proofs.Ytpbohnlfiaigjaa
open Go.RowKit

theorem drewN_self (w : World) (k : Nat) : Below w.heap.size w (w.drewN k) := ⟨rfl, rfl, rfl, Nat.le_refl _, fun _ _ => rfl⟩
set_option maxRecDepth 100000 in
set_option maxHeartbeats 16000000 in
theorem refCut_main (A B : Option Addr) (n c m c' : Nat) (l : List Bd) (hol : List Int) (a b : Int) (w : World) (hA : BdR w A l) (hn : l.length = n) (hc : n ≤ c) (hm : c ≤ maxLen) (hB : IR w B hol) (hh : hol.length = m) (hc' : m ≤ c') (hm' : c' ≤ maxLen)
    (hck : ckB l = 0) (hv : vl (a, b) = true) (hs : b - a ≤ 2678400) :
    Calls Try.prog 22 #[.slice A n c, .slice B m c', .agg #[.int .i64 a, .int .i64 b]] w (PcOut (ctP (atV l hol) a b) w) := by
  obtain ⟨j0, hj0, hy0, hy1, hy2⟩ := info_parts pieceInfo
  obtain ⟨g1, g2, g3, g4, g5⟩ := ckB_0 hck
  obtain ⟨v0, v1, v2⟩ := vl_iff.1 hv
  simp only at v0 v1 v2
  obtain ⟨n1, n2, n3⟩ := daysN_spec v0 v1 hs
  obtain ⟨N, hN⟩ : ∃ N, daysN a b = N := ⟨_, rfl⟩
  obtain ⟨d0, hd0⟩ : ∃ d, a / 86400 = d := ⟨_, rfl⟩
  have hd1 : d0 * 86400 ≤ a := by omega
  have hd2 : 0 ≤ d0 := by omega
  have hd3 : d0 ≤ 146097 := by omega
  rw [hN] at n1 n2 n3
  rw [hd0] at n1 n2
  obtain ⟨M, hM⟩ : ∃ M, minN l 1440 = M := ⟨_, rfl⟩
  have HMI := Lib.hid (fun W h => minutes_any A n c l W h hn hc hm)
  have HM0 := Lib.hid (minN_first l)
  have HMN := Lib.hid (fun j mj nx h1 h2 h3 => minN_next (l := l) (j := j) (mj := mj) (nx := nx) h1 h2 h3)
  obtain ⟨f, hf⟩ : ∃ f, atV l hol = f := ⟨_, rfl⟩
  have HCO := Lib.hid (fun D x y j mj nx h1 h2 h3 h4 h5 h6 => ref_const hol g5 (D := D) (x := x) (y := y) (j := j) (mj := mj) (nx := nx) h1 h2 h3 h4 h5 h6)
  have HBO := Lib.hid (fun t nm hnm W h1 h2 ht1 ht2 => refat_is A B n c m c' l hol t nm hnm W h1 hn hc hm h2 hh hc' hm' g5 g1 ht1 ht2)
  rw [hM] at HMI HM0 HMN HCO
  rw [hf] at HCO HBO ⊢
  obtain ⟨nM, hnM⟩ : ∃ q, M.length = q := ⟨_, rfl⟩
  have hnM2 : nM ≤ 1440 := by rw [← hnM, ← hM]; exact minN_length l 1440
  have HCK := Lib.hid (fun W h => refCheck_is A n c l 0 hck W h hn hc hm)
  have HVA := Lib.hid (refValid_is a b true hv)
  have HA := Lib.hid hA; have HB := Lib.hid hB; have HNM := Lib.hid hnM
  have HBP := Lib.hid (Blk.new w 37 #[.int .i64 a, .int .i64 b])
  have hb0 : Below w.heap.size w (w.alloc (.cells #[.int .i64 a, .int .i64 b] 37)) := (Below.refl _ w).alloc (Nat.le_refl _) _
  have hs0 := hb0.size
  have d1 : decide (2678400 < b - a) = false := decide_eq_false (by omega)
  have HLN := Lib.hid (fun x (_ : x ≤ b) => Nat.le_trans (ctP_length f a x) (show (x - a).toNat ≤ 2678400 by omega))
  clear hA hB hn hm hh hm' hck g1 g2 g3 g4 g5 hN hM hf hnM hv
  go_enter Try.func22, Try.ntmps22
  go_wp2_with (first
    | (go_at_call 16; (with_reducible refine (HCK.out _ (HA.out.below hb0)).mono ?_); rintro e w1 ⟨rfl, hb1⟩; have hb2 := hb0.trans (hb1.mono hs0); have hs2 := hb2.size; have hP1 := HBP.out.below hb1 HBP.out.lt; obtain ⟨p0, p1⟩ := hP1.two; clear hb1)
    | (go_at_call 25; (with_reducible refine (HVA.out _).mono ?_); rintro e w2 ⟨rfl, hb3⟩; have hb4 := hb2.trans (hb3.mono hs2); have hs4 := hb4.size; have hP2 := hP1.below hb3 hP1.lt; clear p0 p1; obtain ⟨p0, p1⟩ := hP2.two; clear hb3)
    | (go_at_call 55; (with_reducible refine (HMI.out _ (HA.out.below hb4)).mono ?_); rintro e w4 ⟨R4, r4, rfl, hr4, hI4, hb5⟩; have HI4 := Lib.hid hI4; have hP4 := hP2.below hb5 hP2.lt; have HP4 := Lib.hid hP4; clear p0 p1 hI4; obtain ⟨p0, p1⟩ := hP4.two; have hbw := hb4.trans (hb5.mono hs4); clear hb5))
  rw [hd0]
  rw [HNM.out] at hr4 ⊢
  have hsw := hbw.size
  clear p0 p1 hb0 hs0 hb2 hs2 hb4 hs4 hP1 hP2 hP4 HMI HCK HVA HBP d1 hd0
  go_loopw [7, 9] (fun v dv wr => ∃ (i : Nat) (o : List Pc), dv = .int .i64 (d0 + i) ∧ i ≤ N ∧ Hid (ctP f a (clp a b ((d0 + i) * 86400)) = o) ∧ Below w4.heap.size w4 wr ∧ wr.ownsRow w4.heap.size 45 3 v o.length (pcl o)) (fun _ dv _ => (b - intOf dv * 86400).toNat)
  case atStart => exact ⟨0, [], by simp, by omega, Lib.hid (by rw [show clp a b ((d0 + ((0 : Nat) : Int)) * 86400) = a by unfold clp; omega, ctP_start]), Below.refl _ _, World.ownsRow_nil _ _ _ _⟩
  case round =>
    obtain ⟨i, o, rfl, hi, HE, hbr, hown⟩ := hrel
    have hs := hbr.size
    obtain ⟨p0, p1⟩ := (HP4.out.below hbr HP4.out.lt).two
    by_cases hlt : (d0 + i) * 86400 < b
    · have hiN : i < N := by omega
      obtain ⟨D, hD⟩ : ∃ D, (d0 + i) * 86400 = D := ⟨_, rfl⟩
      have hD0 : 0 ≤ D := by omega
      have hDm : D % 86400 = 0 := by omega
      have hDs : (d0 + ((i + 1 : Nat) : Int)) * 86400 = D + 86400 := by omega
      have HDS := Lib.hid hDs
      have HDM := Lib.hid hDm
      rw [hD] at HE hlt
      have hDu : D ≤ 12622780800 := by omega
      have HE0 : Hid (ctP f a (clp a b (D + M.getD 0 1440 * 60)) = o) := Lib.hid (by rw [HM0.out.2]; simpa using HE.out)
      go_wp2_with fail
      clear HE p0 p1 hDs hDm
      go_loopw [7, 10] (fun v jv wx => ∃ (j : Nat) (o : List Pc), jv = .int .i64 j ∧ j ≤ nM ∧ Hid (ctP f a (clp a b (D + M.getD j 1440 * 60)) = o) ∧ Below w4.heap.size w4 wx ∧ wx.ownsRow w4.heap.size 45 3 v o.length (pcl o)) (fun _ jv _ => nM - (intOf jv).toNat)
      case atStart => exact ⟨0, o, rfl, by omega, HE0, hbr, hown⟩
      case round =>
        clear HE0 hbr hown hs
        obtain ⟨j, o, rfl, hj, HE, hbr, hown⟩ := hrel
        have hs := hbr.size
        obtain ⟨A1, c1, rfl, hc1, hm1, _⟩ := pc_own hown rfl
        obtain ⟨p0, p1⟩ := (HP4.out.below hbr HP4.out.lt).two
        by_cases hjn : j < nM
        · have hjM : j < M.length := by rw [HNM.out]; exact hjn
          obtain ⟨bk, off, rfl, hbl, q0⟩ := HI4.out j hjM
          have e0 := (hbr.cell (p := ⟨bk, off + j, none⟩) hbl).trans q0
          have hjn' : (j : Int) < (nM : Int) := by omega
          obtain ⟨mj, hmj⟩ : ∃ z, M.getD j 0 = z := ⟨_, rfl⟩
          obtain ⟨nx, hnx⟩ : ∃ z, M.getD (j + 1) 1440 = z := ⟨_, rfl⟩
          have hmj2 : M.getD j 1440 = mj := by rw [← hmj]; simp [List.getD, List.getElem?_eq_getElem hjM]
          rw [hmj] at e0
          obtain ⟨k1, k2, k3⟩ := HMN.out j mj nx hjM hmj hnx
          obtain ⟨x, hx⟩ : ∃ z, max a (D + mj * 60) = z := ⟨_, rfl⟩
          obtain ⟨y, hy⟩ : ∃ z, min b (D + nx * 60) = z := ⟨_, rfl⟩
          rw [hmj2] at HE
          have HNX := Lib.hid hnx
          have HSK : Hid (y ≤ x → clp a b (D + mj * 60) = clp a b (D + nx * 60)) := Lib.hid (fun h => clp_skip v1 (by omega) (by rw [hx, hy]; exact h))
          have HFR : Hid (x < y → clp a b (D + mj * 60) = x) := Lib.hid (fun h => by rw [clp_from (Y := D + nx * 60) (by rw [hx, hy]; exact h), hx])
          have HTO : Hid (x < y → clp a b (D + nx * 60) = y) := Lib.hid (fun h => by rw [clp_to (X := D + mj * 60) (by omega) (by rw [hx, hy]; exact h), hy])
          have HCN := Lib.hid (HCO.out D x y j mj nx hjM hmj hnx HDM.out (by omega) (by omega))
          have hxa : a ≤ x := by omega
          have hyb : y ≤ b := by omega
          have hlj := HLN.out (clp a b (D + mj * 60)) (by unfold clp; omega)
          rw [HE.out] at hlj
          have hnext : (j + 1 < nM ∧ decide ((j : Int) + 1 < (nM : Int)) = true ∧ (j : Int) + 1 < (nM : Int) ∧ wr.cell? ⟨bk, off + (j + 1), none⟩ = some (.int .i64 nx)) ∨ (¬ j + 1 < nM ∧ decide ((j : Int) + 1 < (nM : Int)) = false ∧ nx = 1440) := by
            by_cases h : j + 1 < nM
            · obtain ⟨bk2, off2, hbe, _, q1⟩ := HI4.out (j + 1) (by rw [HNM.out]; exact h)
              obtain ⟨rfl, rfl⟩ : bk = bk2 ∧ off = off2 := by injection hbe with h; injection h with h1 h2; exact ⟨h1, h2⟩
              refine .inl ⟨h, decide_eq_true (by omega), by omega, (hbr.cell (p := ⟨bk, off + (j + 1), none⟩) hbl).trans (q1.trans ?_)⟩
              rw [← hnx]; simp [List.getD, List.getElem?_eq_getElem (show j + 1 < M.length by rw [HNM.out]; exact h)]
            · refine .inr ⟨h, decide_eq_false (by omega), ?_⟩
              rw [← hnx]; simp [List.getD, List.getElem?_eq_none (show M.length ≤ j + 1 by rw [HNM.out]; omega)]
          have HSS : Hid (x < y → ∀ nm, f x = nm → ctP f a (clp a b (D + M.getD (j + 1) 1440 * 60)) = push o (nm, x, y)) := Lib.hid (fun h nm hnm => by
            rw [HNX.out, HTO.out h, ctP_step hxa h (fun t g1 g2 => (HCN.out t g1 g2).trans hnm), ← HFR.out h, HE.out, HFR.out h])
          have HSN : Hid (y ≤ x → ctP f a (clp a b (D + M.getD (j + 1) 1440 * 60)) = o) := Lib.hid (fun h => by rw [HNX.out, ← HSK.out h, HE.out])
          have HB1' := Lib.hid (fun nm hnm W h => HBO.out x nm hnm W ((HA.out.below hbw).below h) ((HB.out.below hbw).below h))
          have hjb : (j : Int) + 1 ≤ nM := by omega
          clear hmj hnx hmj2 q0 HCN HTO HFR HSK HNX HE
          rcases hnext with ⟨h1, h2, h3, e1⟩ | ⟨h1, h2, hn4⟩
          case' inr =>
            have hy' : min b (D + 86400) = y := by rw [← hy, hn4]; omega
            clear hn4 hy
          all_goals
            go_wp2_with fail
            go_quiet (fail)
            have hbq := below_drewN hbr nq
            have hownq := own_drew hown nq
            have hsq := hbq.size
            clear p0 p1 e0 hbr hown hs
            generalize wr.drewN nq = wq at *
            by_cases hxy : x < y
            · have dxy : decide (y ≤ x) = false := decide_eq_false (by omega)
              obtain ⟨nm, hnm⟩ : ∃ nm, f x = nm := ⟨_, rfl⟩
              have HS := Lib.hid (HSS.out hxy nm hnm)
              have HB1 := Lib.hid (HB1'.out nm hnm wq hbq (by omega) (by omega))
              clear hnm HSS HSN HB1' h2
              rcases snoc_cases o with rfl | ⟨o1, ⟨m1, u1, v1⟩, rfl⟩
              · have HS2 : Hid (ctP f a (clp a b (D + M.getD (j + 1) 1440 * 60)) = [] ++ [(nm, x, y)]) := Lib.hid (by rw [HS.out, push_nil]; rfl)
                clear HS
                go_wp2_with (first | (go_at_call 51; (with_reducible refine HB1.out.mono ?_); rintro e w5 ⟨rfl, hb5⟩; have hown5 := own_below hownq hb5; have hbr5 : Below w4.heap.size w4 w5 := hbq.trans (hb5.mono hsq); have hs5 := hbr5.size; clear hb5) | (at_builtin; refine wpList_append_own _ rfl (.tmp 107) (.tmp 113) 39 rfl w4.heap.size 45 j0 (.agg #[.string ByteArray.empty, .int .i64 0, .int .i64 0]) 3 32 Try.underlying39 hj0 hy0 hy1 hy2 rfl (by decide) _ _ _ rfl (World.ownsRow.alloc hown5 _) ⟨w5.heap.size, 0, none⟩ 1 1 [.string nm, .int .i64 x, .int .i64 y] rfl rfl (cell_three_new _ _ _ _ _) (by intro u hu; simp at hu; rcases hu with rfl | rfl | rfl <;> rfl) (by unfold maxLen; first | omega | (simp <;> omega)) (by first | omega | (simp <;> omega)) (by first | omega | (simp <;> omega)) ?_; intro v6 w6 hown6 hg6 _))
                have hb8 : Below w4.heap.size w4 w6 := (hbr5.alloc hbr5.size _).grown hg6 (by have := hbr5.size; simp; omega) (fun g hg' => by have := (World.ownsRow.lt hown5 g hg').1; omega)
                go_roundw
                case rel => exact ⟨j + 1, _, by go_num, by omega, HS2, hb8, by rw [pcl_append]; simpa [pcl] using hown6⟩
                case measure => simp [intOf]; omega
              · have hl2 : (o1 ++ [(m1, u1, v1)]).length = o1.length + 1 := by simp
                obtain ⟨g, cg, hve, hcg, hcm, hgb, hgl⟩ := own_form3 hownq (by rw [hl2]; omega)
                obtain ⟨rfl, rfl⟩ : A1 = some ⟨g, 0, none⟩ ∧ c1 = cg := by injection hve with h1 h2 h3; exact ⟨h1, h3⟩
                rw [hl2] at hownq hlj ⊢
                clear hve hcg hc1
                have wrm : IntKind.i64.wrap (((o1.length + 1 : Nat) : Int) - 1) = (o1.length : Int) := by rw [show ((o1.length + 1 : Nat) : Int) - 1 = (o1.length : Int) by omega]; exact IntWalk.i64_in _ (by omega)
                have hpos : decide ((0 : Int) < ((o1.length + 1 : Nat) : Int)) = true := decide_eq_true (by omega)
                have hmn : (o1.length : Int) < ((o1.length + 1 : Nat) : Int) := by omega
                by_cases hnm : m1 = nm
                · have hq := sEq_is (decide_eq_true hnm)
                  have HS2 : Hid (ctP f a (clp a b (D + M.getD (j + 1) 1440 * 60)) = o1 ++ [(m1, u1, y)]) := Lib.hid (by rw [HS.out, push_snoc, if_pos hnm])
                  clear HS hnm
                  go_wp2_with (first | (go_at_call 51; (with_reducible refine HB1.out.mono ?_); rintro e w5 ⟨rfl, hb5⟩; have hown5 := own_below hownq hb5; have hbr5 : Below w4.heap.size w4 w5 := hbq.trans (hb5.mono hsq); have hs5 := hbr5.size; have hq0 := (World.ownsRow.cellAt hown5 (o1.length * 3) (by omega)).trans (pcl_last o1 m1 u1 v1).1; have hq2 := (World.ownsRow.cellAt hown5 (o1.length * 3 + 2) (by omega)).trans (pcl_last o1 m1 u1 v1).2; have hfz := World.ownsRow.frozenAt hown5 (o1.length * 3 + 2); clear hb5))
                  have hst := (World.ownsRow.stored hown5 (o1.length * 3 + 2) (.int .i64 y)).1
                  rw [pcl_set] at hst
                  go_roundw
                  case rel => exact ⟨j + 1, _, by go_num, by omega, HS2, hbr5.setCell hgb _, by simpa using hst⟩
                  case measure => simp [intOf]; omega
                · have hq := sEq_is (decide_eq_false hnm)
                  have HS2 : Hid (ctP f a (clp a b (D + M.getD (j + 1) 1440 * 60)) = o1 ++ [(m1, u1, v1)] ++ [(nm, x, y)]) := Lib.hid (by rw [HS.out, push_snoc, if_neg hnm])
                  clear HS hnm
                  go_wp2_with (first | (go_at_call 51; (with_reducible refine HB1.out.mono ?_); rintro e w5 ⟨rfl, hb5⟩; have hown5 := own_below hownq hb5; have hbr5 : Below w4.heap.size w4 w5 := hbq.trans (hb5.mono hsq); have hs5 := hbr5.size; have hq0 := (World.ownsRow.cellAt hown5 (o1.length * 3) (by omega)).trans (pcl_last o1 m1 u1 v1).1; have hq2 := (World.ownsRow.cellAt hown5 (o1.length * 3 + 2) (by omega)).trans (pcl_last o1 m1 u1 v1).2; have hfz := World.ownsRow.frozenAt hown5 (o1.length * 3 + 2); clear hb5) | (at_builtin; refine wpList_append_own _ rfl (.tmp 107) (.tmp 113) 39 rfl w4.heap.size 45 j0 (.agg #[.string ByteArray.empty, .int .i64 0, .int .i64 0]) 3 32 Try.underlying39 hj0 hy0 hy1 hy2 rfl (by decide) _ _ _ rfl (World.ownsRow.alloc hown5 _) ⟨w5.heap.size, 0, none⟩ 1 1 [.string nm, .int .i64 x, .int .i64 y] rfl rfl (cell_three_new _ _ _ _ _) (by intro u hu; simp at hu; rcases hu with rfl | rfl | rfl <;> rfl) (by unfold maxLen; first | omega | (simp <;> omega)) (by first | omega | (simp <;> omega)) (by first | omega | (simp <;> omega)) ?_; intro v6 w6 hown6 hg6 _))
                  have hb8 : Below w4.heap.size w4 w6 := (hbr5.alloc hbr5.size _).grown hg6 (by have := hbr5.size; simp; omega) (fun g hg' => by have := (World.ownsRow.lt hown5 g hg').1; omega)
                  go_roundw
                  case rel => exact ⟨j + 1, _, by go_num, by omega, HS2, hb8, by rw [pcl_append]; simpa [pcl] using hown6⟩
                  case measure => simp [intOf]; omega
            · have dxy : decide (y ≤ x) = true := decide_eq_true (by omega)
              have HS2 := Lib.hid (HSN.out (by omega))
              clear HSS HSN HB1' h2
              go_wp2_with fail
              go_roundw
              case rel => exact ⟨j + 1, o, by go_num, by omega, HS2, hbq, hownq⟩
              case measure => simp [intOf]; omega
        · obtain rfl : j = nM := by omega
          have HE2 : Hid (ctP f a (clp a b ((d0 + ((i + 1 : Nat) : Int)) * 86400)) = o) := Lib.hid (by
            have := HE.out
            rw [show M.getD j 1440 = 1440 by simp [List.getD, List.getElem?_eq_none (show M.length ≤ j by rw [HNM.out]; omega)], show D + 1440 * 60 = D + 86400 by omega] at this
            rw [HDS.out]; exact this)
          clear HE p0 p1
          go_wp2_with fail
          go_roundw
          case rel => exact ⟨i + 1, o, by congr 1; omega, by omega, HE2, hbr, hown⟩
          case measure => simp [intOf]; omega
    · obtain rfl : i = N := by omega
      have HE2 : Hid (ctP f a b = o) := Lib.hid (by have := HE.out; rwa [show clp a b ((d0 + (i : Int)) * 86400) = b by unfold clp; omega] at this)
      clear HE
      go_wp2_with fail
      go_ret
      rw [HE2.out]
      obtain ⟨A', c2, e1, e2, e4, e3⟩ := pc_own hown rfl
      exact ⟨A', c2, by simp [e1], e2, e4, e3, hbw.trans (hbr.mono hsw)⟩
end Go.Proofs.Ytpbohnlfiaigjaa
