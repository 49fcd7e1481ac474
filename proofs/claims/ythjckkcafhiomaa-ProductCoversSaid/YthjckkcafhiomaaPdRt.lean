/- Walk of the reference: At. -/
import Derived.Test.YthjckkcafhiomaaPdAt
namespace Go.Proofs.Ythjckkcafhiomaa.Pd
open Go.RowKit

def lst (q : Pr → Bool) (l : List Pr) (k : Nat) : Option Pr := (kp q l k).getLast?
theorem lst_yes {q : Pr → Bool} {l : List Pr} {k : Nat} (h : k < l.length) (hq : q (l.getD k pr0) = true) : lst q l (k + 1) = some (l.getD k pr0) := by
  unfold lst; rw [kp_yes h hq]; simp
theorem lst_no {q : Pr → Bool} {l : List Pr} {k : Nat} (h : k < l.length) (hq : q (l.getD k pr0) = false) : lst q l (k + 1) = lst q l k := by
  unfold lst; rw [kp_no h hq]
/-- What the reference's At gives. -/
def RtOut (o : Option Pr) (w : World) (e : Ending) (w' : World) : Prop :=
  e = .returned (.tuple #[.agg (o.getD pr0).cells, .bool o.isSome]) ∧ Below w.heap.size w w'
set_option maxRecDepth 100000 in
set_option maxHeartbeats 8000000 in
theorem refAt_any (A : Option Addr) (n c : Nat) (l : List Pr) (nm : ByteArray) (t : Int) (w : World) (hA : PrR w A l) (hn : l.length = n) (h6 : n ≤ 1000000) :
    Calls Try.prog 14 #[.slice A n c, .string nm, .int .i64 t] w (RtOut (verA l nm t) w) := by
  obtain ⟨b0, hb0⟩ : ∃ b, w.heap.size = b := ⟨_, rfl⟩
  obtain ⟨L, hL⟩ : ∃ L, (w.alloc (.cells #[.string ⟨#[]⟩, .int .i64 0, .int .i64 0, .string ⟨#[]⟩, .bool false, .slice none 0 0] 29)).alloc (.cells #[.string ⟨#[]⟩, .int .i64 0, .int .i64 0, .string ⟨#[]⟩, .bool false, .slice none 0 0] 29) = L := ⟨_, rfl⟩
  have hBL : Below w.heap.size w L := hL ▸ (below_one w _).alloc (by simp) _
  have h1 : Blk L b0 29 #[.string ⟨#[]⟩, .int .i64 0, .int .i64 0, .string ⟨#[]⟩, .bool false, .slice none 0 0] := hL ▸ hb0 ▸ (Blk.new w _ _).alloc _
  have h2 : Blk L (b0 + 1) 29 #[.string ⟨#[]⟩, .int .i64 0, .int .i64 0, .string ⟨#[]⟩, .bool false, .slice none 0 0] := by
    have h := Blk.new (w.alloc (.cells #[.string ⟨#[]⟩, .int .i64 0, .int .i64 0, .string ⟨#[]⟩, .bool false, .slice none 0 0] 29)) 29 #[.string ⟨#[]⟩, .int .i64 0, .int .i64 0, .string ⟨#[]⟩, .bool false, .slice none 0 0]
    rw [World.size_alloc, hb0, hL] at h
    exact h
  have HA := Lib.hid hA; have HN := Lib.hid hn; have HBL := Lib.hid hBL; have H1 := Lib.hid h1; have H2 := Lib.hid h2; have HB0 := Lib.hid hb0
  obtain ⟨d0, d1, d2, d3, d4, d5⟩ := h2.six
  have f0 := h2.frozen 0; have f1 := h2.frozen 1; have f2 := h2.frozen 2; have f3 := h2.frozen 3; have f4 := h2.frozen 4; have f5 := h2.frozen 5
  clear hA hn hBL h1 h2
  go_enter Try.func14, Try.ntmps14
  go_wp2_with fail
  obtain ⟨W0, hW0⟩ : ∃ W0, ((((((L.setCell ⟨b0 + 1, 0, none⟩ (.string ⟨#[]⟩)).setCell ⟨b0 + 1, 1, none⟩ (.int .i64 0)).setCell ⟨b0 + 1, 2, none⟩ (.int .i64 0)).setCell ⟨b0 + 1, 3, none⟩ (.string ⟨#[]⟩)).setCell ⟨b0 + 1, 4, none⟩ (.bool false)).setCell ⟨b0 + 1, 5, none⟩ (.slice none 0 0)) = W0 := ⟨_, rfl⟩
  have hPut : Put (b0 + 1) 29 #[.string ⟨#[]⟩, .int .i64 0, .int .i64 0, .string ⟨#[]⟩, .bool false, .slice none 0 0] L W0 := hW0 ▸ put6_all H2.out _ _ _ _ _ _
  rw [hW0]
  have HW1 : Hid (Blk W0 b0 29 #[.string ⟨#[]⟩, .int .i64 0, .int .i64 0, .string ⟨#[]⟩, .bool false, .slice none 0 0]) := Lib.hid ((hPut.keep b0 (by omega)).trans H1.out)
  have HWB : Hid (Below w.heap.size w W0) := Lib.hid (hPut.below HBL.out (by have := HB0.out; omega))
  have HW2 := Lib.hid hPut.blk
  clear hW0 hPut d0 d1 d2 d3 d4 d5 f0 f1 f2 f3 f4 f5 hL hb0
  go_loopw [9, 10] (fun bv iv wr => ∃ k : Nat, bv = .bool (lst (qA nm t) l k).isSome ∧ iv = .int .i64 k ∧ k ≤ n ∧ Hid (Blk wr b0 29 #[.string ⟨#[]⟩, .int .i64 0, .int .i64 0, .string ⟨#[]⟩, .bool false, .slice none 0 0]) ∧ Hid (Blk wr (b0 + 1) 29 ((lst (qA nm t) l k).getD pr0).cells) ∧ Hid (Below w.heap.size w wr)) (fun _ iv _ => n - (intOf iv).toNat)
  case atStart => exact ⟨0, rfl, rfl, by omega, HW1, HW2, HWB⟩
  case round =>
    obtain ⟨k, hbv, rfl, hk, HP1, HP2, HB⟩ := hrel
    obtain ⟨hs, hhs⟩ : ∃ hs, (lst (qA nm t) l k).isSome = hs := ⟨_, rfl⟩
    rw [hhs] at hbv
    subst hbv
    obtain ⟨cur, hcur⟩ : ∃ cur, (lst (qA nm t) l k).getD pr0 = cur := ⟨_, rfl⟩
    rw [hcur] at HP2
    have HS := Lib.hid hhs; have HC := Lib.hid hcur
    clear hhs hcur
    by_cases hlt : k < n
    · have hkl : k < l.length := by rw [HN.out]; exact hlt
      have hlt' : (k : Int) < (n : Int) := by omega
      have HY := Lib.hid (fun h => lst_yes (q := qA nm t) hkl h); have HX := Lib.hid (fun h => lst_no (q := qA nm t) hkl h)
      obtain ⟨bk, off, rfl, hbl, hcs, -⟩ := HA.out k hkl
      have hcs := hcs.below HB.out hbl
      obtain ⟨p, hp⟩ : ∃ p, l.getD k pr0 = p := ⟨_, rfl⟩
      rw [hp] at hcs HY HX
      obtain ⟨pn, fr, fe, ca, pr, pA, pN, pC, bs⟩ := p
      unfold Pr.cells at hcs
      simp only at hcs
      obtain ⟨e0, e1, e2, e3, e4, e5⟩ := hcs.all
      obtain ⟨v, hv⟩ : ∃ v, decide (pn = nm) = v := ⟨_, rfl⟩
      obtain ⟨u, hu⟩ : ∃ u, decide (fr ≤ t) = u := ⟨_, rfl⟩
      have hq := sEq_is hv
      have HQ : Hid (qA nm t ⟨pn, fr, fe, ca, pr, pA, pN, pC, bs⟩ = (v && u)) := Lib.hid (by unfold qA; simp only [hv, hu])
      clear hcs hkl hp hbl hv
      have hno : (v && u) = false → Hid (lst (qA nm t) l (k + 1) = lst (qA nm t) l k) := fun h => Lib.hid (HX.out (HQ.out.trans h))
      cases v
      · have HN2 := hno rfl
        clear hno HX HY
        go_wp2_with fail
        go_roundw
        case rel => exact ⟨k + 1, by rw [HN2.out, HS.out], by go_num, by omega, HP1, Lib.hid (by rw [HN2.out, HC.out]; exact HP2.out), HB⟩
        case measure => simp [intOf]; omega
      · cases u
        · have HN2 := hno rfl
          clear hno HX HY
          go_wp2_with fail
          go_roundw
          case rel => exact ⟨k + 1, by rw [HN2.out, HS.out], by go_num, by omega, HP1, Lib.hid (by rw [HN2.out, HC.out]; exact HP2.out), HB⟩
          case measure => simp [intOf]; omega
        · have HN2 := Lib.hid (HY.out HQ.out)
          clear hno HX HY HS HC
          obtain ⟨qn, qfr, qfe, qca, qpr, qqA, qN, qC, qbs⟩ := cur
          unfold Pr.cells at HP2
          simp only at HP2
          obtain ⟨d0, d1, d2, d3, d4, d5⟩ := HP2.out.six
          have f0 := HP2.out.frozen 0; have f1 := HP2.out.frozen 1; have f2 := HP2.out.frozen 2; have f3 := HP2.out.frozen 3; have f4 := HP2.out.frozen 4; have f5 := HP2.out.frozen 5
          go_wp2_with fail
          obtain ⟨W9, hW9⟩ : ∃ W9, ((((((wr.setCell ⟨b0 + 1, 0, none⟩ (.string pn)).setCell ⟨b0 + 1, 1, none⟩ (.int .i64 fr)).setCell ⟨b0 + 1, 2, none⟩ (.int .i64 fe)).setCell ⟨b0 + 1, 3, none⟩ (.string ca)).setCell ⟨b0 + 1, 4, none⟩ (.bool pr)).setCell ⟨b0 + 1, 5, none⟩ (.slice pA pN pC)) = W9 := ⟨_, rfl⟩
          have hPut : Put (b0 + 1) 29 #[.string pn, .int .i64 fr, .int .i64 fe, .string ca, .bool pr, .slice pA pN pC] wr W9 := hW9 ▸ put6_all HP2.out _ _ _ _ _ _
          rw [hW9]
          clear hW9
          go_roundw
          case rel => exact ⟨k + 1, by rw [HN2.out]; rfl, by go_num, by omega, Lib.hid ((hPut.keep b0 (by omega)).trans HP1.out), Lib.hid (by rw [HN2.out]; exact hPut.blk), Lib.hid (hPut.below HB.out (by have := HB0.out; omega))⟩
          case measure => simp [intOf]; omega
    · obtain rfl : k = n := by omega
      have hver : lst (qA nm t) l k = verA l nm t := by unfold lst verA; rw [← HN.out, kp_all]
      rw [hver] at HS HC
      obtain ⟨qn, qfr, qfe, qca, qpr, qqA, qN, qC, qbs⟩ := cur
      unfold Pr.cells at HP2
      simp only at HP2
      obtain ⟨d0, d1, d2, d3, d4, d5⟩ := HP2.out.six
      obtain ⟨c0, c1, c2, c3, c4, c5⟩ := HP1.out.six
      have f0 := HP1.out.frozen 0; have f1 := HP1.out.frozen 1; have f2 := HP1.out.frozen 2; have f3 := HP1.out.frozen 3; have f4 := HP1.out.frozen 4; have f5 := HP1.out.frozen 5
      clear hver
      go_wp2_with fail
      obtain ⟨W9, hW9⟩ : ∃ W9, ((((((wr.setCell ⟨b0, 0, none⟩ (.string qn)).setCell ⟨b0, 1, none⟩ (.int .i64 qfr)).setCell ⟨b0, 2, none⟩ (.int .i64 qfe)).setCell ⟨b0, 3, none⟩ (.string qca)).setCell ⟨b0, 4, none⟩ (.bool qpr)).setCell ⟨b0, 5, none⟩ (.slice qqA qN qC)) = W9 := ⟨_, rfl⟩
      have hPut : Put b0 29 #[.string qn, .int .i64 qfr, .int .i64 qfe, .string qca, .bool qpr, .slice qqA qN qC] wr W9 := hW9 ▸ put6_all HP1.out _ _ _ _ _ _
      rw [hW9]
      clear hW9
      exact bodyPost_ret (v := .tuple #[.agg (Pr.cells ⟨qn, qfr, qfe, qca, qpr, qqA, qN, qC, qbs⟩), .bool hs]) (results_cell2 (p := 6) (u := 7) rfl _ _ b0 29 (Pr.cells ⟨qn, qfr, qfe, qca, qpr, qqA, qN, qC, qbs⟩) (0, 0) _ rfl hPut.blk Try.underlying29 rfl rfl) rfl ⟨by rw [HS.out, HC.out], hPut.below HB.out (by have := HB0.out; omega)⟩
end Go.Proofs.Ythjckkcafhiomaa.Pd
