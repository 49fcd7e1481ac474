/- Walks: whether a batch is valid. -/
import Derived.Test.YtobkafkknbdacaaDoorBaC
import Derived.Deep.QuietTactic
namespace Go.Proofs.YtobkafkknbdacaaDoor.Va
open Go.RowKit

/-- The error of a batch. -/
def bkE (s n f : Int) (l : List Rc) : Int := if hdE s n f (l.length : Int) ≠ 0 then hdE s n f (l.length : Int) else rcE s l
def SzR (l : List Rc) : Prop := ∀ r ∈ l, r.sa.size ≤ maxLen ∧ r.sb.size ≤ maxLen
theorem getD_mem {l : List Rc} {k : Nat} (h : k < l.length) : l.getD k rc0 ∈ l := by
  rw [List.getD_eq_getElem?_getD, List.getElem?_eq_getElem h]
  exact List.getElem_mem h
theorem drop_getD {l : List Rc} {k : Nat} (h : k < l.length) : l.drop k = l.getD k rc0 :: l.drop (k + 1) := by
  rw [List.drop_eq_getElem_cons h, List.getD_eq_getElem?_getD, List.getElem?_eq_getElem h]
  rfl
set_option maxRecDepth 100000 in
set_option maxHeartbeats 8000000 in
theorem refHead_any (s n f : Int) (w : World) : Calls Tryd.prog 16 #[.int .i64 s, .int .i64 n, .int .i64 f] w fun e w' => e = .returned (.int .i64 (hdE s n f 0)) ∧ w = w' := by
  obtain ⟨X, hX⟩ : ∃ X, hdE s n f 0 = X := ⟨_, rfl⟩
  rw [hX]
  unfold hdE at hX
  by_cases c1 : s < 1
  · rw [if_pos (by omega)] at hX; subst hX
    go_enter Tryd.func16, Tryd.ntmps16
    go_wp2
    go_ret
    exact ⟨rfl, rfl⟩
  by_cases c2 : 99 < s
  · rw [if_pos (by omega)] at hX; subst hX
    go_enter Tryd.func16, Tryd.ntmps16
    go_wp2
    go_ret
    exact ⟨rfl, rfl⟩
  by_cases c3 : n < 1
  · rw [if_pos (by omega)] at hX; subst hX
    go_enter Tryd.func16, Tryd.ntmps16
    go_wp2
    go_ret
    exact ⟨rfl, rfl⟩
  by_cases c4 : 999999999 < n
  · rw [if_pos (by omega)] at hX; subst hX
    go_enter Tryd.func16, Tryd.ntmps16
    go_wp2
    go_ret
    exact ⟨rfl, rfl⟩
  rw [if_neg (by omega)] at hX
  by_cases c5 : f < 1
  · rw [if_pos (by omega)] at hX; subst hX
    go_enter Tryd.func16, Tryd.ntmps16
    go_wp2
    go_ret
    exact ⟨rfl, rfl⟩
  by_cases c6 : 4 ≤ f
  · rw [if_pos (by omega)] at hX; subst hX
    go_enter Tryd.func16, Tryd.ntmps16
    go_wp2
    go_ret
    exact ⟨rfl, rfl⟩
  rw [if_neg (by omega), if_neg (by omega)] at hX; subst hX
  go_enter Tryd.func16, Tryd.ntmps16
  go_wp2
  go_ret
  exact ⟨rfl, rfl⟩
set_option maxRecDepth 100000 in
set_option maxHeartbeats 16000000 in
theorem bchk_any {w : World} {A : Option Addr} {m c : Nat} {l : List Rc} (s n f : Int) (hA : RecR w A l) (hl : l.length = m) (hm : m ≤ 5000) (hz : SzR l) :
    Calls Tryd.prog 9 #[.agg #[.int .i64 s, .int .i64 n, .int .i64 f, .slice A m c]] w fun e w' => e = .returned (.int .i64 (bkE s n f l)) ∧ Below w.heap.size w w' := by
  obtain ⟨L, hL⟩ : ∃ L, w.alloc (.cells #[.int .i64 s, .int .i64 n, .int .i64 f, .slice A m c] 31) = L := ⟨_, rfl⟩
  have hbl : Blk L w.heap.size 31 #[.int .i64 s, .int .i64 n, .int .i64 f, .slice A m c] := hL ▸ Blk.new w _ _
  have hb0 : Below w.heap.size w L := hL ▸ below_lit w _
  have HBL := Lib.hid hbl; have HB0 := Lib.hid hb0
  have HA := Lib.hid (hA.below hb0); have HN := Lib.hid hl; have HZ := Lib.hid hz
  have e0 := hbl.cell 0; have e1 := hbl.cell 1; have e2 := hbl.cell 2; have e3 := hbl.cell 3
  simp at e0 e1 e2 e3
  have hlt0 : w.heap.size < L.heap.size := hbl.lt
  obtain ⟨E, hE⟩ : ∃ E, hdE s n f (m : Int) = E := ⟨_, rfl⟩
  have HH := Lib.hid (head_any s n f A m c)
  have HC := Lib.hid (chkHead_any s n f (m : Int))
  rw [hE] at HC
  have HE := Lib.hid hE
  clear hA hl hz hbl hb0 hE
  go_enter Tryd.func9, Tryd.ntmps9
  by_cases hE0 : E = 0
  · subst hE0
    have hval : bkE s n f l = rcE s l := by unfold bkE; rw [HN.out, HE.out, if_neg (by decide)]
    rw [hval]
    clear hval
    go_wp2_with (first
      | (go_at_call 14; (with_reducible refine (HH.out _).mono ?_); rintro e w1 ⟨rfl, hb1⟩; have HB1 := Lib.hid hb1; clear hb1)
      | (go_at_call 13; (with_reducible refine (HC.out _).mono ?_); rintro e w2 ⟨rfl, hb2⟩; have HB2 := Lib.hid (HB1.out.trans (hb2.mono HB1.out.size)); clear hb2 e0 e1 e2 e3; have hbl2 := HBL.out.below HB2.out HBL.out.lt; have e0 := hbl2.cell 0; have e1 := hbl2.cell 1; have e2 := hbl2.cell 2; have e3 := hbl2.cell 3; simp at e0 e1 e2 e3; have HA2 := Lib.hid (HA.out.below HB2.out); have HBW := Lib.hid (HB0.out.trans (HB2.out.mono (Nat.le_of_lt hlt0))); have HL2 := Lib.hid hbl2; clear hbl2))
    go_loopw [16] (fun iv wr => ∃ k : Nat, iv = .int .i64 k ∧ k ≤ m ∧ Hid (rcE s l = rcE s (l.drop k)) ∧ Hid (Blk wr w.heap.size 31 #[.int .i64 s, .int .i64 n, .int .i64 f, .slice A m c]) ∧ Hid (Below w2.heap.size w2 wr)) (fun iv _ => m - (intOf iv).toNat)
    case atStart => exact ⟨0, rfl, by omega, Lib.hid rfl, HL2, Lib.hid (Below.refl _ _)⟩
    case round =>
      obtain ⟨k, rfl, hk, HR, HL, HB⟩ := hrel
      clear e0 e1 e2 e3
      by_cases hlt : k < m
      · have hlt' : (k : Int) < (m : Int) := by omega
        have hk0 : (0 : Int) ≤ (k : Int) := by omega
        have hkl : k < l.length := by rw [HN.out]; exact hlt
        obtain ⟨bk, off, rfl, hbk, hcs⟩ := (HA2.out.below HB.out) k hkl
        have hzz := HZ.out _ (getD_mem hkl)
        have hdr := drop_getD hkl
        have hr := HR.out
        rw [hdr] at hr
        obtain ⟨r, hp⟩ : ∃ r, l.getD k rc0 = r := ⟨_, rfl⟩
        rw [hp] at hcs hzz hr
        simp only [rcE] at hr
        have hch := check_any r hzz.1 hzz.2
        obtain ⟨X, hX⟩ : ∃ X, chkR r = X := ⟨_, rfl⟩
        rw [hX] at hch hr
        obtain ⟨s0, s1, s2, sa, sb, s5, s6, s7, s8, b9, s10, b11⟩ := r
        obtain ⟨d0, d1, d2, d3, d4, d5, d6, d7, d8, d9, d10, d11⟩ := hcs.all
        simp only [Rc.cells] at hch
        simp only at d0 d1 d2 d3 d4 d5 d6 d7 d8 d9 d10 d11 hr
        have hrc := rec_cells (w := wr) ⟨s0, s1, s2, sa, sb, s5, s6, s7, s8, b9, s10, b11⟩
        obtain ⟨q0, q1, q2, q3, q4, q5, q6, q7, q8, q9, q10, q11⟩ := hrc.all
        simp only [Rc.cells, Nat.zero_add] at q0 q1 q2 q3 q4 q5 q6 q7 q8 q9 q10 q11
        have HCH := Lib.hid hch
        have HRC := Lib.hid hrc
        have hgl : w.heap.size < wr.heap.size := HL.out.lt
        have hLA := HL.out.alloc (.cells (Rc.cells ⟨s0, s1, s2, sa, sb, s5, s6, s7, s8, b9, s10, b11⟩) 33)
        simp only [Rc.cells] at hLA
        have HLA := Lib.hid hLA
        have HBA := Lib.hid (HB.out.alloc HB.out.size (.cells #[.int .i64 s0, .int .i64 s1, .int .i64 s2, .string sa, .string sb, .int .i64 s5, .int .i64 s6, .int .i64 s7, .int .i64 s8, .bool b9, .int .i64 s10, .bool b11] 33))
        have HBK : Hid (Blk (wr.alloc (.cells #[.int .i64 s0, .int .i64 s1, .int .i64 s2, .string sa, .string sb, .int .i64 s5, .int .i64 s6, .int .i64 s7, .int .i64 s8, .bool b9, .int .i64 s10, .bool b11] 33)) wr.heap.size 33 #[.int .i64 s0, .int .i64 s1, .int .i64 s2, .string sa, .string sb, .int .i64 s5, .int .i64 s6, .int .i64 s7, .int .i64 s8, .bool b9, .int .i64 s10, .bool b11]) := Lib.hid (Blk.new wr _ _)
        clear hp hcs hbk hkl hrc hch hLA hzz hdr
        by_cases hX0 : X = 0
        · subst hX0
          rw [if_neg (by decide)] at hr
          by_cases hs0 : s0 = s
          · rw [if_neg (by simp [hs0])] at hr
            have HRN := Lib.hid hr
            have hsq : (s0 != s) = false := by simp [hs0]
            clear hr hs0
            go_wp2_with (go_at_call 15; (with_reducible refine (HCH.out _).mono ?_); rintro e w3 ⟨rfl, hb3⟩; have hbk3 := HBK.out.below hb3 HBK.out.lt; have hbl3 := HLA.out.below hb3 HLA.out.lt; have x0 := hbk3.cell 0; have y0 := hbl3.cell 0; simp at x0 y0; have HL3 := Lib.hid hbl3; have HB3 := Lib.hid (HBA.out.trans (hb3.mono HBA.out.size)); clear hb3 hbk3 hbl3)
            go_roundw
            case rel => exact ⟨k + 1, by go_num, by omega, HRN, HL3, HB3⟩
            case measure => simp [intOf]; omega
          · rw [if_pos hs0] at hr
            have HRN := Lib.hid hr
            have hsq : (s0 != s) = true := by simp [hs0]
            clear hr
            go_wp2_with (go_at_call 15; (with_reducible refine (HCH.out _).mono ?_); rintro e w3 ⟨rfl, hb3⟩; have hbk3 := HBK.out.below hb3 HBK.out.lt; have hbl3 := HLA.out.below hb3 HLA.out.lt; have x0 := hbk3.cell 0; have y0 := hbl3.cell 0; simp at x0 y0; have HL3 := Lib.hid hbl3; have HB3 := Lib.hid (HBA.out.trans (hb3.mono HBA.out.size)); clear hb3 hbk3 hbl3)
            go_ret
            exact ⟨by rw [HRN.out]; rfl, HBW.out.trans (HB3.out.mono HBW.out.size)⟩
        · rw [if_pos hX0] at hr
          have HRN := Lib.hid hr
          have hxq : (X != 0) = true := by simp [hX0]
          clear hr
          go_wp2_with (go_at_call 15; (with_reducible refine (HCH.out _).mono ?_); rintro e w3 ⟨rfl, hb3⟩; have HB3 := Lib.hid (HBA.out.trans (hb3.mono HBA.out.size)); clear hb3)
          go_ret
          exact ⟨by rw [HRN.out]; rfl, HBW.out.trans (HB3.out.mono HBW.out.size)⟩
      · obtain rfl : k = m := by omega
        have hr := HR.out
        rw [List.drop_eq_nil_of_le (by rw [HN.out]; exact Nat.le_refl _)] at hr
        have HRN : Hid (rcE s l = 0) := Lib.hid hr
        clear hr
        go_wp2_with fail
        go_ret
        exact ⟨by rw [HRN.out]; rfl, HBW.out.trans (HB.out.mono HBW.out.size)⟩
  · have hval : bkE s n f l = E := by unfold bkE; rw [HN.out, HE.out, if_pos hE0]
    rw [hval]
    have hEq : (E != 0) = true := by simp [hE0]
    clear hval
    go_wp2_with (first
      | (go_at_call 14; (with_reducible refine (HH.out _).mono ?_); rintro e w1 ⟨rfl, hb1⟩; have HB1 := Lib.hid hb1; clear hb1)
      | (go_at_call 13; (with_reducible refine (HC.out _).mono ?_); rintro e w2 ⟨rfl, hb2⟩; have HB2 := Lib.hid (HB1.out.trans (hb2.mono HB1.out.size)); clear hb2))
    go_ret
    exact ⟨rfl, HB0.out.trans (HB2.out.mono (Nat.le_of_lt hlt0))⟩
set_option maxRecDepth 100000 in
set_option maxHeartbeats 16000000 in
theorem refChk_any {w : World} {A : Option Addr} {m c : Nat} {l : List Rc} (s n f : Int) (hA : RecR w A l) (hl : l.length = m) (hm : m ≤ 5000) (hz : SzR l) :
    Calls Tryd.prog 10 #[.agg #[.int .i64 s, .int .i64 n, .int .i64 f, .slice A m c]] w fun e w' => e = .returned (.int .i64 (bkE s n f l)) ∧ Below w.heap.size w w' := by
  obtain ⟨L, hL⟩ : ∃ L, w.alloc (.cells #[.int .i64 s, .int .i64 n, .int .i64 f, .slice A m c] 31) = L := ⟨_, rfl⟩
  have hbl : Blk L w.heap.size 31 #[.int .i64 s, .int .i64 n, .int .i64 f, .slice A m c] := hL ▸ Blk.new w _ _
  have hb0 : Below w.heap.size w L := hL ▸ below_lit w _
  have HBL := Lib.hid hbl; have HB0 := Lib.hid hb0
  have HA := Lib.hid (hA.below hb0); have HN := Lib.hid hl; have HZ := Lib.hid hz
  have e0 := hbl.cell 0; have e1 := hbl.cell 1; have e2 := hbl.cell 2; have e3 := hbl.cell 3
  simp at e0 e1 e2 e3
  have hlt0 : w.heap.size < L.heap.size := hbl.lt
  obtain ⟨E, hE⟩ : ∃ E, hdE s n f 0 = E := ⟨_, rfl⟩
  have HC := Lib.hid (refHead_any s n f)
  rw [hE] at HC
  have HE := Lib.hid hE
  have hkey : bkE s n f l = if E ≠ 0 then E else if (4096 : Int) < (m : Int) then 5 else rcE s l := by
    unfold bkE
    rw [hl, ← hE]
    unfold hdE
    split
    · simp
    · split
      · simp
      · rw [if_neg (show ¬ ((0 : Int) < 0 ∨ (4096 : Int) < 0) by decide)]
        by_cases h4 : (4096 : Int) < (m : Int)
        · rw [if_pos (by omega)]; simp; omega
        · rw [if_neg (by omega)]; simp; omega
  have HK := Lib.hid hkey
  clear hA hl hz hbl hb0 hE hkey
  go_enter Tryd.func10, Tryd.ntmps10
  by_cases hE0 : E = 0
  · subst hE0
    by_cases h4 : (4096 : Int) < (m : Int)
    · have hval : bkE s n f l = 5 := by rw [HK.out, if_neg (by decide), if_pos h4]
      rw [hval]
      clear hval
      go_wp2_with (go_at_call 16; (with_reducible refine (HC.out _).mono ?_); rintro e w2 ⟨rfl, rfl⟩)
      go_ret
      exact ⟨rfl, HB0.out⟩
    · have hval : bkE s n f l = rcE s l := by rw [HK.out, if_neg (by decide), if_neg h4]
      rw [hval]
      clear hval
      go_wp2_with (go_at_call 16; (with_reducible refine (HC.out _).mono ?_); rintro e w2 ⟨rfl, rfl⟩)
      go_loopw [4] (fun iv wr => ∃ k : Nat, iv = .int .i64 k ∧ k ≤ m ∧ Hid (rcE s l = rcE s (l.drop k)) ∧ Hid (Blk wr w.heap.size 31 #[.int .i64 s, .int .i64 n, .int .i64 f, .slice A m c]) ∧ Hid (Below L.heap.size L wr)) (fun iv _ => m - (intOf iv).toNat)
      case atStart => exact ⟨0, rfl, by omega, Lib.hid rfl, HBL, Lib.hid (Below.refl _ _)⟩
      case round =>
        obtain ⟨k, rfl, hk, HR, HL, HB⟩ := hrel
        clear e0 e1 e2 e3
        have e0 := HL.out.cell 0; have e3 := HL.out.cell 3
        simp at e0 e3
        by_cases hlt : k < m
        · have hlt' : (k : Int) < (m : Int) := by omega
          have hk0 : (0 : Int) ≤ (k : Int) := by omega
          have hkl : k < l.length := by rw [HN.out]; exact hlt
          obtain ⟨bk, off, rfl, hbk, hcs⟩ := (HA.out.below HB.out) k hkl
          have hzz := HZ.out _ (getD_mem hkl)
          have hdr := drop_getD hkl
          have hr := HR.out
          rw [hdr] at hr
          obtain ⟨r, hp⟩ : ∃ r, l.getD k rc0 = r := ⟨_, rfl⟩
          rw [hp] at hcs hzz hr
          simp only [rcE] at hr
          have hch := refErr_any r hzz.1 hzz.2
          obtain ⟨X, hX⟩ : ∃ X, chkR r = X := ⟨_, rfl⟩
          rw [hX] at hch hr
          obtain ⟨s0, s1, s2, sa, sb, s5, s6, s7, s8, b9, s10, b11⟩ := r
          obtain ⟨d0, d1, d2, d3, d4, d5, d6, d7, d8, d9, d10, d11⟩ := hcs.all
          simp only [Rc.cells] at hch
          simp only at d0 d1 d2 d3 d4 d5 d6 d7 d8 d9 d10 d11 hr
          have HCH := Lib.hid hch
          have HD0 : Hid (∀ W, Below wr.heap.size wr W → W.cell? ⟨bk, off + k * 12, none⟩ = some (.int .i64 s0)) := Lib.hid (fun W hb => (hb.cell (p := ⟨bk, off + k * 12, none⟩) hbk).trans d0)
          have hgl : w.heap.size < wr.heap.size := HL.out.lt
          clear hp hcs hbk hkl hch hzz hdr
          by_cases hX0 : X = 0
          · subst hX0
            rw [if_neg (by decide)] at hr
            by_cases hs0 : s0 = s
            · rw [if_neg (by simp [hs0])] at hr
              have HRN := Lib.hid hr
              have hsq : (s0 != s) = false := by simp [hs0]
              clear hr hs0
              go_wp2_with (go_at_call 17; (with_reducible refine (HCH.out _).mono ?_); rintro e w3 ⟨rfl, hb3⟩; have hbl3 := HL.out.below hb3 HL.out.lt; have x0 := HD0.out _ hb3; have y0 := hbl3.cell 0; have y3 := hbl3.cell 3; simp at y0 y3; have HL3 := Lib.hid hbl3; have HB3 := Lib.hid (HB.out.trans (hb3.mono HB.out.size)); clear hb3 hbl3 d0 d1 d2 d3 d4 d5 d6 d7 d8 d9 d10 d11 e0 e3)
              go_quiet (fail)
              go_wp2
              go_roundw
              case rel => exact ⟨k + 1, by go_num, by omega, HRN, Lib.hid (HL3.out.drewN _), Lib.hid (below_drewN HB3.out _)⟩
              case measure => simp [intOf]; omega
            · rw [if_pos hs0] at hr
              have HRN := Lib.hid hr
              have hsq : (s0 != s) = true := by simp [hs0]
              clear hr
              go_wp2_with (go_at_call 17; (with_reducible refine (HCH.out _).mono ?_); rintro e w3 ⟨rfl, hb3⟩; have hbl3 := HL.out.below hb3 HL.out.lt; have x0 := HD0.out _ hb3; have y0 := hbl3.cell 0; have y3 := hbl3.cell 3; simp at y0 y3; have HL3 := Lib.hid hbl3; have HB3 := Lib.hid (HB.out.trans (hb3.mono HB.out.size)); clear hb3 hbl3 d0 d1 d2 d3 d4 d5 d6 d7 d8 d9 d10 d11 e0 e3)
              go_quiet (fail)
              go_wp2
              go_ret
              exact ⟨by rw [HRN.out]; rfl, below_drewN (HB0.out.trans (HB3.out.mono HB0.out.size)) _⟩
          · rw [if_pos hX0] at hr
            have HRN := Lib.hid hr
            have hxq : (X != 0) = true := by simp [hX0]
            clear hr
            go_wp2_with (go_at_call 17; (with_reducible refine (HCH.out _).mono ?_); rintro e w3 ⟨rfl, hb3⟩; have HB3 := Lib.hid (HB.out.trans (hb3.mono HB.out.size)); clear hb3)
            go_ret
            exact ⟨by rw [HRN.out]; rfl, HB0.out.trans (HB3.out.mono HB0.out.size)⟩
        · obtain rfl : k = m := by omega
          have hr := HR.out
          rw [List.drop_eq_nil_of_le (by rw [HN.out]; exact Nat.le_refl _)] at hr
          have HRN : Hid (rcE s l = 0) := Lib.hid hr
          clear hr
          go_wp2_with fail
          go_ret
          exact ⟨by rw [HRN.out]; rfl, HB0.out.trans (HB.out.mono HB0.out.size)⟩
  · have hval : bkE s n f l = E := by rw [HK.out, if_pos hE0]
    rw [hval]
    have hEq : (E != 0) = true := by simp [hE0]
    clear hval
    go_wp2_with (go_at_call 16; (with_reducible refine (HC.out _).mono ?_); rintro e w2 ⟨rfl, rfl⟩)
    go_ret
    exact ⟨rfl, HB0.out⟩
end Go.Proofs.YtobkafkknbdacaaDoor.Va
