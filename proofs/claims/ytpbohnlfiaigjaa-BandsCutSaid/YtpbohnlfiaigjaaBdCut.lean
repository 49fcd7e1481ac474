/- Walk of the program: a period is cut at the limits of bands. -/
import Derived.Test.YtpbohnlfiaigjaaBdPc
import Derived.Test.YtpbohnlfiaigjaaIvCut
import Derived.Deep.RegionHeld3
namespace Go.Proofs.Ytpbohnlfiaigjaa
open Go.RowKit

theorem mrg_cut {l : List Bd} (hol : List Int) (hok : ∀ d ∈ l, ∀ s ∈ d.2, okS s = true) {a b : Int} {N : Nat} (h : vl (a, b) = true) (hN : b ≤ (a / 86400 + N) * 86400) :
    mrg (atV l hol) [] (cutV a b (limN l (a / 86400) N)) = ctP (atV l hol) a b := by
  obtain ⟨h0, h1, h2⟩ := vl_iff.1 h
  simp only at h0 h1 h2
  obtain ⟨g1, g2⟩ := cutE_spec a b (limN l (a / 86400) N)
  have hin : ∀ x ∈ cutE a b (limN l (a / 86400) N), a < x ∧ x ≤ b := fun x hx => by
    rcases (g2 x).1 hx with rfl | ⟨_, h3, h4⟩ <;> omega
  have hlast : (cutE a b (limN l (a / 86400) N)).getLastD a = b := last_max g1 (fun x hx => (hin x hx).2) ((g2 b).2 (.inl rfl))
  rw [cutV_yes h, ← ctP_start (atV l hol) a, mrg_prs (a := a) (fun _ => rfl) (fun _ _ _ => rfl) _ a (Int.le_refl _) (List.pairwise_cons.2 ⟨fun x hx => (hin x hx).1, g1⟩), hlast]
  rw [hlast]
  intro t ht1 ht2 ht3
  exact atV_lim hol hok hN ht1 ht2 fun hm => ht3 ((g2 _).2 (.inr ⟨hm, by omega, ht2⟩))
theorem cutV_at {a b : Int} (h : vl (a, b) = true) (L : List Int) {k : Nat} (hk : k < (cutV a b L).length) : vl ((cutV a b L).getD k (0, 0)) = true :=
  (cutV_all h L).1 _ (by simp [List.getD, List.getElem?_eq_getElem hk])
/-- How many days a period touches. -/
def daysN (a b : Int) : Nat := ((b + 86399) / 86400 - a / 86400).toNat
theorem daysN_spec {a b : Int} (h0 : 0 ≤ a) (h : a < b) (h2 : b - a ≤ 2678400) : b ≤ (a / 86400 + daysN a b) * 86400 ∧ (a / 86400 + daysN a b) * 86400 < b + 86400 ∧ daysN a b ≤ 33 := by
  unfold daysN
  omega
theorem drew_self (w : World) : Below w.heap.size w w.drew := ⟨rfl, rfl, rfl, Nat.le_refl _, fun _ _ => rfl⟩
theorem mrg_step {f : Int → ByteArray} {P : List Pd} {k : Nat} {x y : Int} {nm : ByteArray} (hk : k < P.length) (hp : P.getD k (0, 0) = (x, y)) (hf : f x = nm) : mrg f [] (P.take (k + 1)) = push (mrg f [] (P.take k)) (nm, x, y) := by
  rw [List.take_succ_eq_append_getElem hk]
  have : P[k] = (x, y) := by simpa [List.getD, List.getElem?_eq_getElem hk] using hp
  rw [this, mrg_snoc, hf]
set_option maxRecDepth 100000 in
set_option maxHeartbeats 8000000 in
theorem cut_main (A B : Option Addr) (n c m c' : Nat) (l : List Bd) (hol : List Int) (a b : Int) (w : World) (hA : BdR w A l) (hn : l.length = n) (hc : n ≤ c) (hm : c ≤ maxLen) (hB : IR w B hol) (hh : hol.length = m) (hc' : m ≤ c') (hm' : c' ≤ maxLen)
    (hck : ckB l = 0) (hv : vl (a, b) = true) (hs : b - a ≤ 2678400) (hq : nsl l ≤ 100) :
    Calls Try.prog 21 #[.slice A n c, .slice B m c', .agg #[.int .i64 a, .int .i64 b]] w (PcOut (ctP (atV l hol) a b) w) := by
  obtain ⟨j0, hj0, hy0, hy1, hy2⟩ := info_parts pieceInfo
  obtain ⟨g1, g2, g3, g4, g5⟩ := ckB_0 hck
  obtain ⟨v0, v1, v2⟩ := vl_iff.1 hv
  simp only at v0 v1 v2
  obtain ⟨n1, n2, n3⟩ := daysN_spec v0 v1 hs
  obtain ⟨N, hN⟩ : ∃ N, daysN a b = N := ⟨_, rfl⟩
  rw [hN] at n1 n2 n3
  have h5 : 2 * nsl l * N ≤ 10000 := Nat.le_trans (Nat.mul_le_mul (show 2 * nsl l ≤ 200 by omega) n3) (by decide)
  obtain ⟨L, hL⟩ : ∃ L, limN l (a / 86400) N = L := ⟨_, rfl⟩
  have hLl := limN_length l (a / 86400) N
  obtain ⟨P, hP⟩ : ∃ P, cutV a b L = P := ⟨_, rfl⟩
  have hPl := cutV_length a b L
  have HMG := Lib.hid (mrg_cut hol g5 hv n1)
  have HPV := Lib.hid (fun k hk => cutV_at hv L (k := k) hk)
  have HLI := Lib.hid (fun W h => limits_any A n c l a b N W h hn hc hm g5 v0 v1 v2 n1 n2 h5)
  rw [hL] at hLl HMG HLI
  rw [hP] at hPl HMG HPV
  obtain ⟨f, hf⟩ : ∃ f, atV l hol = f := ⟨_, rfl⟩
  have HBO := Lib.hid (fun t nm hnm W h1 h2 ht1 ht2 => bandOf_is A B n c m c' l hol t nm hnm W h1 hn hc hm h2 hh hc' hm' g5 g1 ht1 ht2)
  rw [hf] at HMG HBO ⊢
  obtain ⟨nP, hnP⟩ : ∃ q, P.length = q := ⟨_, rfl⟩
  have HCU := Lib.hid (fun R r W h hr => cut_any a b R L.length r L W h rfl hr (by omega))
  rw [hP] at HCU
  have HCK := Lib.hid (fun W h => check_is A n c l 0 hck W h hn hc hm)
  have HVA := Lib.hid (valid_is a b true hv)
  have HA := Lib.hid hA; have HB := Lib.hid hB; have HNP := Lib.hid hnP
  have hPb : nP ≤ 10001 := by omega
  have HBP := Lib.hid (Blk.new w 37 #[.int .i64 a, .int .i64 b])
  have hb0 : Below w.heap.size w (w.alloc (.cells #[.int .i64 a, .int .i64 b] 37)) := (Below.refl _ w).alloc (Nat.le_refl _) _
  have hs0 := hb0.size
  have d1 : decide (2678400 < b - a) = false := decide_eq_false (by omega)
  clear hA hB hn hm hh hm' hck hq g1 g2 g3 g4 g5 n1 n2 n3 hN h5 hL hLl hP hPl hf hnP hv hs
  go_enter Try.func21, Try.ntmps21
  go_wp2_with (first
    | (go_at_call 15; (with_reducible refine (HCK.out _ (HA.out.below hb0)).mono ?_); rintro e w1 ⟨rfl, hb1⟩; have hb2 := hb0.trans (hb1.mono hs0); have hs2 := hb2.size; have hP1 := HBP.out.below hb1 HBP.out.lt; obtain ⟨p0, p1⟩ := hP1.two; clear hb1)
    | (go_at_call 52; (with_reducible refine (HVA.out _).mono ?_); rintro e w2 ⟨rfl, hb3⟩; have hb4 := hb2.trans (hb3.mono hs2); have hs4 := hb4.size; have hP2 := hP1.below hb3 hP1.lt; clear p0 p1; obtain ⟨p0, p1⟩ := hP2.two; clear hb3))
  go_region_held3 (fun w' => w'.cell? ⟨w.heap.size, 0, none⟩ = some (.int .i64 a) ∧ w'.cell? ⟨w.heap.size, 1, none⟩ = some (.int .i64 b)) (go_keep)
    (first
      | (go_at_call 54; (with_reducible refine (HLI.out _ ((HA.out.below hb4).below (drew_self _))).mono ?_); rintro e w3 ⟨R3, r3, rfl, hr3, hI3, hb5⟩; have HI3 := Lib.hid hI3; have g0 := (hb5.cell (p := ⟨w.heap.size, 0, none⟩) hP2.lt).trans p0; have g1 := (hb5.cell (p := ⟨w.heap.size, 1, none⟩) hP2.lt).trans p1; have hl3 : w.heap.size < w3.heap.size := Nat.lt_of_lt_of_le hP2.lt hb5.size; clear hI3)
      | (go_at_call 53; (with_reducible refine (HCU.out _ _ _ HI3.out hr3).mono ?_); rintro e w4 ⟨R4, r4, rfl, hr4, hI4, hb6⟩; have HI4 := Lib.hid hI4; have h0 := (hb6.cell (p := ⟨w.heap.size, 0, none⟩) hl3).trans g0; have h1 := (hb6.cell (p := ⟨w.heap.size, 1, none⟩) hl3).trans g1; clear hI4))
  have hbw : Below w.heap.size w w4 := hb4.trans ((drew_below hb5).trans (hb6.mono hb5.size) |>.mono hs4)
  rw [HNP.out] at hr4 ⊢
  have hsw := hbw.size
  clear hb5 hb6 g0 g1 h0 h1 hl3 HI3 hr3 p0 p1 hb0 hs0 hb2 hs2 hb4 hs4 hP1 hP2 HLI HCU HCK HVA HBP d1
  go_wp2_with fail
  go_loopw [7, 34] (fun v kv wr => ∃ (k : Nat) (o : List Pc), kv = .int .i64 k ∧ k ≤ nP ∧ o.length ≤ k ∧ Hid (mrg f [] (P.take k) = o) ∧ Below w4.heap.size w4 wr ∧ wr.ownsRow w4.heap.size 45 3 v o.length (pcl o)) (fun _ kv _ => nP - (intOf kv).toNat)
  case atStart => exact ⟨0, [], rfl, by omega, by simp, Lib.hid rfl, Below.refl _ _, World.ownsRow_nil _ _ _ _⟩
  case round =>
    obtain ⟨k, o, rfl, hk, hol, HE, hbr, hown⟩ := hrel
    have hs := hbr.size
    obtain ⟨A1, c1, rfl, hc1, hm1, _⟩ := pc_own hown rfl
    by_cases hlt : k < nP
    · have hkP : k < P.length := by rw [HNP.out]; exact hlt
      obtain ⟨bk, off, rfl, hbl, q0, q1⟩ := HI4.out k hkP
      have e0 := (hbr.cell (p := ⟨bk, off + k * 2, none⟩) hbl).trans q0
      have e1 := (hbr.cell (p := ⟨bk, off + k * 2 + 1, none⟩) hbl).trans q1
      have hlt' : (k : Int) < (nP : Int) := by omega
      obtain ⟨⟨x, y⟩, hp⟩ : ∃ p, P.getD k (0, 0) = p := ⟨_, rfl⟩
      have hvl := HPV.out k hkP
      rw [hp] at e0 e1 hvl
      simp only at e0 e1
      obtain ⟨u0, u1, u2⟩ := vl_iff.1 hvl
      simp only at u0 u1 u2
      obtain ⟨nm, hnm⟩ : ∃ nm, f x = nm := ⟨_, rfl⟩
      have HS := Lib.hid (mrg_step hkP hp hnm)
      have hBn := Blk.new wr 37 #[.int .i64 x, .int .i64 y]
      have hb2 : Below w.heap.size w (wr.alloc (.cells #[.int .i64 x, .int .i64 y] 37)) := hbw.trans ((hbr.alloc hs _).mono hsw)
      have hb2r : Below w4.heap.size w4 (wr.alloc (.cells #[.int .i64 x, .int .i64 y] 37)) := hbr.alloc hs _
      have hs2 := hb2.size
      obtain ⟨c0, c1'⟩ := hBn.two
      have HBn := Lib.hid hBn
      have HB1 := Lib.hid (HBO.out x nm hnm _ (HA.out.below hb2) (HB.out.below hb2) u0 (by omega))
      clear q0 q1 hvl hp hnm hBn u0 u1 u2 hkP
      have hs2r := hb2r.size
      rcases snoc_cases o with rfl | ⟨o1, ⟨m1, u1, v1⟩, rfl⟩
      · have HS2 : Hid (mrg f [] (P.take (k + 1)) = [] ++ [(nm, x, y)]) := Lib.hid (by rw [HS.out, HE.out, push_nil]; rfl)
        clear HS HE
        go_wp2_with (first | (go_at_call 50; (with_reducible refine HB1.out.mono ?_); rintro e w5 ⟨rfl, hb5⟩; have hown5 := own_below (World.ownsRow.alloc hown _) hb5; have hb6 : Below w.heap.size w w5 := hb2.trans (hb5.mono hs2); have hbr5 : Below w4.heap.size w4 w5 := hb2r.trans (hb5.mono hs2r); have hs5 := hbr5.size; have hq5 := (HBn.out.below hb5 HBn.out.lt).two; have f0 := hq5.1; have f1 := hq5.2; clear hq5 hb5) | (at_builtin; refine wpList_append_own _ rfl (.tmp 64) (.tmp 68) 39 rfl w4.heap.size 45 j0 (.agg #[.string ByteArray.empty, .int .i64 0, .int .i64 0]) 3 32 Try.underlying39 hj0 hy0 hy1 hy2 rfl (by decide) _ _ _ rfl (World.ownsRow.alloc hown5 _) ⟨w5.heap.size, 0, none⟩ 1 1 [.string nm, .int .i64 x, .int .i64 y] rfl rfl (cell_three_new _ _ _ _ _) (by intro u hu; simp at hu; rcases hu with rfl | rfl | rfl <;> rfl) (by unfold maxLen; first | omega | (simp <;> omega)) (by first | omega | (simp <;> omega)) (by first | omega | (simp <;> omega)) ?_; intro v6 w6 hown6 hg6 _))
        have hb8 : Below w4.heap.size w4 w6 := (hbr5.alloc hbr5.size _).grown hg6 (by have := hbr5.size; simp; omega) (fun g hg' => by have := (World.ownsRow.lt hown5 g hg').1; omega)
        go_roundw
        case rel => exact ⟨k + 1, _, by go_num, by omega, by simp, HS2, hb8, by rw [pcl_append]; simpa [pcl] using hown6⟩
        case measure => simp [intOf]; omega
      · have hl2 : (o1 ++ [(m1, u1, v1)]).length = o1.length + 1 := by simp
        obtain ⟨g, cg, hve, hcg, hcm, hgb, hgl⟩ := own_form3 hown (by rw [hl2]; omega)
        obtain ⟨rfl, rfl⟩ : A1 = some ⟨g, 0, none⟩ ∧ c1 = cg := by injection hve with h1 h2 h3; exact ⟨h1, h3⟩
        rw [hl2] at hown hol ⊢
        clear hve hcg hc1
        have wrm : IntKind.i64.wrap (((o1.length + 1 : Nat) : Int) - 1) = (o1.length : Int) := by rw [show ((o1.length + 1 : Nat) : Int) - 1 = (o1.length : Int) by omega]; exact IntWalk.i64_in _ (by omega)
        have hpos : decide ((0 : Int) ≤ (o1.length : Int)) = true := decide_eq_true (by omega)
        have hmn : (o1.length : Int) < ((o1.length + 1 : Nat) : Int) := by omega
        by_cases hnm : m1 = nm
        · have hq := sEq_is (decide_eq_true hnm)
          have HS2 : Hid (mrg f [] (P.take (k + 1)) = o1 ++ [(m1, u1, y)]) := Lib.hid (by rw [HS.out, HE.out, push_snoc, if_pos hnm])
          clear HS HE hnm
          go_wp2_with (first | (go_at_call 50; (with_reducible refine HB1.out.mono ?_); rintro e w5 ⟨rfl, hb5⟩; have hown5 := own_below (World.ownsRow.alloc hown _) hb5; have hb6 : Below w.heap.size w w5 := hb2.trans (hb5.mono hs2); have hbr5 : Below w4.heap.size w4 w5 := hb2r.trans (hb5.mono hs2r); have hs5 := hbr5.size; have hq5 := (HBn.out.below hb5 HBn.out.lt).two; have f0 := hq5.1; have f1 := hq5.2; have hq0 := (World.ownsRow.cellAt hown5 (o1.length * 3) (by omega)).trans (pcl_last o1 m1 u1 v1).1; have hq2 := (World.ownsRow.cellAt hown5 (o1.length * 3 + 2) (by omega)).trans (pcl_last o1 m1 u1 v1).2; have hfz := World.ownsRow.frozenAt hown5 (o1.length * 3 + 2); clear hq5 hb5))
          have hst := (World.ownsRow.stored hown5 (o1.length * 3 + 2) (.int .i64 y)).1
          rw [pcl_set] at hst
          go_roundw
          case rel => exact ⟨k + 1, _, by go_num, by omega, by simp; omega, HS2, hbr5.setCell hgb _, by simpa using hst⟩
          case measure => simp [intOf]; omega
        · have hq := sEq_is (decide_eq_false hnm)
          have HS2 : Hid (mrg f [] (P.take (k + 1)) = o1 ++ [(m1, u1, v1)] ++ [(nm, x, y)]) := Lib.hid (by rw [HS.out, HE.out, push_snoc, if_neg hnm])
          clear HS HE hnm
          go_wp2_with (first | (go_at_call 50; (with_reducible refine HB1.out.mono ?_); rintro e w5 ⟨rfl, hb5⟩; have hown5 := own_below (World.ownsRow.alloc hown _) hb5; have hb6 : Below w.heap.size w w5 := hb2.trans (hb5.mono hs2); have hbr5 : Below w4.heap.size w4 w5 := hb2r.trans (hb5.mono hs2r); have hs5 := hbr5.size; have hq5 := (HBn.out.below hb5 HBn.out.lt).two; have f0 := hq5.1; have f1 := hq5.2; have hq0 := (World.ownsRow.cellAt hown5 (o1.length * 3) (by omega)).trans (pcl_last o1 m1 u1 v1).1; have hq2 := (World.ownsRow.cellAt hown5 (o1.length * 3 + 2) (by omega)).trans (pcl_last o1 m1 u1 v1).2; have hfz := World.ownsRow.frozenAt hown5 (o1.length * 3 + 2); clear hq5 hb5) | (at_builtin; refine wpList_append_own _ rfl (.tmp 64) (.tmp 68) 39 rfl w4.heap.size 45 j0 (.agg #[.string ByteArray.empty, .int .i64 0, .int .i64 0]) 3 32 Try.underlying39 hj0 hy0 hy1 hy2 rfl (by decide) _ _ _ rfl (World.ownsRow.alloc hown5 _) ⟨w5.heap.size, 0, none⟩ 1 1 [.string nm, .int .i64 x, .int .i64 y] rfl rfl (cell_three_new _ _ _ _ _) (by intro u hu; simp at hu; rcases hu with rfl | rfl | rfl <;> rfl) (by unfold maxLen; first | omega | (simp <;> omega)) (by first | omega | (simp <;> omega)) (by first | omega | (simp <;> omega)) ?_; intro v6 w6 hown6 hg6 _))
          have hb8 : Below w4.heap.size w4 w6 := (hbr5.alloc hbr5.size _).grown hg6 (by have := hbr5.size; simp; omega) (fun g hg' => by have := (World.ownsRow.lt hown5 g hg').1; omega)
          go_roundw
          case rel => exact ⟨k + 1, _, by go_num, by omega, by simp; omega, HS2, hb8, by rw [pcl_append]; simpa [pcl] using hown6⟩
          case measure => simp [intOf]; omega
    · obtain rfl : k = nP := by omega
      have HE2 : Hid (ctP f a b = o) := Lib.hid (by rw [← HMG.out, ← HE.out, ← HNP.out, List.take_length])
      go_wp2_with fail
      go_ret
      rw [HE2.out]
      obtain ⟨A', c2, e1, e2, e4, e3⟩ := pc_own hown rfl
      exact ⟨A', c2, by simp [e1], e2, e4, e3, hbw.trans (hbr.mono hsw)⟩
end Go.Proofs.Ytpbohnlfiaigjaa
