/- Walk: Decode of the program. -/
import Derived.Test.YtblhpbheejemnaaPkX
import Derived.Lib.QuietBelow
namespace Go.Proofs.Ytblhpbheejemnaa
open Go.RowKit

/-- The record of bytes, and the error. -/
def decP (b : List Int) : Rc × Int :=
  if b.length < 45 then (rcZ, 2) else if 45 < b.length then (rcZ, 3) else if b.getD 44 0 ≠ smL (b.take 44) then (rcZ, 4)
  else if rdW (b.take 44) = true then (rcZ, 1) else if chkR (rdR (b.take 44)) ≠ 0 then (rcZ, chkR (rdR (b.take 44))) else (rdR (b.take 44), 0)
def DecOut (b : List Int) (w : World) (e : Ending) (w' : World) : Prop :=
  e = .returned (.tuple #[.agg (decP b).1.cells, .int .i64 (decP b).2]) ∧ Below w.heap.size w w'
theorem decOut_of {b : List Int} {r : Rc} {x : Int} (h : decP b = (r, x)) {w w' : World} {e : Ending} (h1 : e = .returned (.tuple #[.agg r.cells, .int .i64 x])) (h2 : Below w.heap.size w w') : DecOut b w e w' := by
  unfold DecOut; rw [h]; exact ⟨h1, h2⟩
theorem bad_de {l : List Int} (h : bad l = false) : (deL l).2 = 0 := by
  unfold bad at h
  by_cases e : (deL l).2 = 0
  · exact e
  · rw [decide_eq_false e] at h; cases h
theorem txt_size {f : List Int} : (strOfNums (txP f 15).1).size ≤ 15 := by rw [strOfNums_size]; exact tx_len f 15
set_option maxRecDepth 100000 in
set_option maxHeartbeats 16000000 in
theorem decode_any {w : World} {A : Option Addr} {n c : Nat} {l : List Int} (h : Byt w A n c l) (hn : n ≤ 1000) :
    Calls Try.prog 16 #[.slice A n c] w (DecOut l w) := by
  have hlen := h.len
  have hni : (n : Int) ≤ 1000 := by omega
  obtain ⟨L, hL, hL0, hx, hLs⟩ := rec_world w rcZ
  obtain ⟨c0, c1, c2, c3, c4, c5, c6, c7, c8, c9, c10, c11⟩ := hx.cells
  have hfr := hx.fr
  have HX := Lib.hid hx; have HL0 := Lib.hid hL0; have HLS := Lib.hid hLs
  simp only [Rc.cells, rcZ] at hL
  simp only [rcZ] at c0 c1 c2 c3 c4 c5 c6 c7 c8 c9 c10 c11
  by_cases s1 : n < 45
  · have d1 : decide ((n : Int) < 45) = true := decide_eq_true (by omega)
    have HD : Hid (decP l = (rcZ, 2)) := Lib.hid (by unfold decP; rw [if_pos (by omega)])
    clear h hlen s1 hx hL0 hLs
    go_enter Try.func16, Try.ntmps16
    go_wp2_with fail
    refine bodyPost_ret (v := .tuple #[.agg rcZ.cells, .int .i64 2]) ?_ rfl (decOut_of HD.out rfl ?_)
    · exact results_cell2 (p := 2) (u := 3) rfl _ _ w.heap.size 31 rcZ.cells (0, 0) _ rfl (RcB.put rcZ HX.out) Try.underlying31 rfl rfl
    · repeat' apply Below.setCell
      all_goals first | exact HL0.out | exact Nat.le_refl _
  · have d1 : decide ((n : Int) < 45) = false := decide_eq_false (by omega)
    by_cases s2 : 45 < n
    · have d2 : decide (45 < (n : Int)) = true := decide_eq_true (by omega)
      have HD : Hid (decP l = (rcZ, 3)) := Lib.hid (by unfold decP; rw [if_neg (by omega), if_pos (by omega)])
      clear h hlen s1 s2 hx hL0 hLs
      go_enter Try.func16, Try.ntmps16
      go_wp2_with fail
      refine bodyPost_ret (v := .tuple #[.agg rcZ.cells, .int .i64 3]) ?_ rfl (decOut_of HD.out rfl ?_)
      · exact results_cell2 (p := 2) (u := 3) rfl _ _ w.heap.size 31 rcZ.cells (0, 0) _ rfl (RcB.put rcZ HX.out) Try.underlying31 rfl rfl
      · repeat' apply Below.setCell
        all_goals first | exact HL0.out | exact Nat.le_refl _
    · have d2 : decide (45 < (n : Int)) = false := decide_eq_false (by omega)
      obtain rfl : n = 45 := by omega
      obtain ⟨bk, off, x, rfl, hx44, hcx, hbl⟩ := h.at (k := 44) (by omega)
      have hcap := h.cap
      have hmax := h.max
      unfold maxLen at hmax
      obtain ⟨T, hT⟩ : ∃ T, l.take 44 = T := ⟨_, rfl⟩
      have HT := Lib.hid hT
      have HYT := Lib.hid (fun W (hb : Below w.heap.size w W) => byt_take (h.below hb) 44 (by omega))
      rw [hT] at HYT
      have hgx : l.getD 44 0 = x := by rw [List.getD_eq_getElem?_getD, hx44]; rfl
      have HDP : Hid (decP l = if x ≠ smL T then (rcZ, 4) else if rdW T = true then (rcZ, 1) else if chkR (rdR T) ≠ 0 then (rcZ, chkR (rdR T)) else (rdR T, 0)) := Lib.hid (by
        unfold decP
        rw [if_neg (by omega), if_neg (by omega), hgx, hT])
      have hcx' := (hL0.cell (p := ⟨bk, off + 44, none⟩) hbl).trans hcx
      have r44 := cell_regrown hcx'
      obtain ⟨sm, hsm⟩ : ∃ sm, smL T = sm := ⟨_, rfl⟩
      have ESM : Hid (∀ W, Below L.heap.size L W → Calls Try.prog 26 #[.slice (some ⟨bk, off, none⟩) 44 c] W fun e w' => e = .returned (.int .u8 sm) ∧ Below W.heap.size W w') := Lib.hid (fun W hb => (sum_any _ 44 c T W (HYT.out W (HL0.out.trans (hb.mono HL0.out.size)))).mono fun e w' hh => by
        obtain ⟨h1, rfl⟩ := hh
        rw [hsm] at h1
        exact ⟨h1, Below.refl _ _⟩)
      have HRD := Lib.hid (fun W (hb : Below L.heap.size L W) => read_any (HYT.out W (HL0.out.trans (hb.mono HL0.out.size))) (by omega) (Nat.lt_of_lt_of_le hbl (Nat.le_trans HL0.out.size hb.size)))
      rw [hsm] at HDP
      have h44 : (44 : Int) ≤ (c : Int) := by omega
      clear h hlen s1 s2 hx44 hcx hT hgx hsm
      by_cases hck : x = sm
      · have hq : (x == sm) = true := by simp [hck]
        have hq2 : (x != sm) = false := by simp [hck]
        have HC := Lib.hid hck
        clear hck hx hL0 hLs
        go_enter Try.func16, Try.ntmps16
        go_wp2_with fail
        refine wp_region_quiet_below (by kernel_rfl) (by kernel_rfl) ?_
        iterate 8 (go_big_quiet_step (with_reducible exact Calls.regrown_of (ESM.out _ (below_regrown _ _ _))))
        refine wpQuiet_nil ?_
        intro Wq hw'
        have hbq : Below L.heap.size L Wq := by
          obtain ⟨⟨dq, osq⟩, hw''⟩ := hw'
          rw [hw'']; exact below_regrown _ _ _
        clear hw'
        have HBQ := Lib.hid hbq
        have HXQ := Lib.hid (HX.out.below hbq (by have := HLS.out; omega))
        clear hbq r44 hcx' c0 c1 c2 c3 c4 c5 c6 c7 c8 c9 c10 c11 hfr
        obtain ⟨c0, c1, c2, c3, c4, c5, c6, c7, c8, c9, c10, c11⟩ := HXQ.out.cells
        have hfr := HXQ.out.fr
        simp only [rcZ] at c0 c1 c2 c3 c4 c5 c6 c7 c8 c9 c10 c11
        have HSA : Hid ((rdR T).sa.size ≤ maxLen) := Lib.hid (Nat.le_trans txt_size (by unfold maxLen; decide))
        have HSB : Hid ((rdR T).sb.size ≤ maxLen) := Lib.hid (Nat.le_trans txt_size (by unfold maxLen; decide))
        have HR := Lib.hid (HRD.out Wq HBQ.out)
        unfold ReadOut at HR
        have HC4 : Hid (decP l = if rdW T = true then (rcZ, 1) else if chkR (rdR T) ≠ 0 then (rcZ, chkR (rdR T)) else (rdR T, 0)) := Lib.hid (by rw [HDP.out, if_neg (fun h => h HC.out)])
        obtain ⟨rr, hrr⟩ : ∃ rr, rdR T = rr := ⟨_, rfl⟩
        rw [hrr] at HR HSA HSB HC4
        have HCK := Lib.hid (check_any rr HSA.out HSB.out)
        obtain ⟨ff, hff⟩ : ∃ ff, rdW T = ff := ⟨_, rfl⟩
        rw [hff] at HR HC4
        obtain ⟨xx, hxx⟩ : ∃ xx, chkR rr = xx := ⟨_, rfl⟩
        rw [hxx] at HCK HC4
        obtain ⟨s0, s1, s2, sa, sb, s5, s6, s7, s8, b9, s10, b11⟩ := rr
        simp only [Rc.cells] at HCK HR
        clear hrr hff hxx
        cases ff
        · by_cases hx0 : xx = 0
          · subst hx0
            have HD : Hid (decP l = (⟨s0, s1, s2, sa, sb, s5, s6, s7, s8, b9, s10, b11⟩, 0)) := Lib.hid (by rw [HC4.out]; simp)
            go_wp2_with (first
              | (go_at_call 30; (with_reducible refine HR.out.mono ?_); rintro e w1 ⟨rfl, hb⟩; have HX1 := Lib.hid (HXQ.out.below hb (heap_lt HXQ.out)); have HB1 := Lib.hid (HBQ.out.trans (hb.mono HBQ.out.size)); clear c0 c1 c2 c3 c4 c5 c6 c7 c8 c9 c10 c11 hfr; obtain ⟨c0, c1, c2, c3, c4, c5, c6, c7, c8, c9, c10, c11⟩ := HX1.out.cells; have hfr := HX1.out.fr; simp only [rcZ] at c0 c1 c2 c3 c4 c5 c6 c7 c8 c9 c10 c11; have HR1 : Hid (RcB (w1.alloc (.cells #[.int .i64 s0, .int .i64 s1, .int .i64 s2, .string sa, .string sb, .int .i64 s5, .int .i64 s6, .int .i64 s7, .int .i64 s8, .bool b9, .int .i64 s10, .bool b11] 31)) w1.heap.size ⟨s0, s1, s2, sa, sb, s5, s6, s7, s8, b9, s10, b11⟩) := Lib.hid (heap_alloc_new w1 _); obtain ⟨k0, k1, k2, k3, k4, k5, k6, k7, k8, k9, k10, k11⟩ := HR1.out.cells; simp only at k0 k1 k2 k3 k4 k5 k6 k7 k8 k9 k10 k11; clear hb)
              | (go_at_call 24; (with_reducible refine (HCK.out _).mono ?_); rintro e w2 ⟨rfl, hb⟩; have HX2 := Lib.hid ((HX1.out.below (below_lit w1 _) (heap_lt HX1.out)).below hb (by have := heap_lt HX1.out; simp; omega)); have HB2 := Lib.hid ((HB1.out.alloc HB1.out.size _).trans (hb.mono (by have := HB1.out.size; simp; omega))); have HR2 := Lib.hid (HR1.out.below hb (heap_lt HR1.out)); clear k0 k1 k2 k3 k4 k5 k6 k7 k8 k9 k10 k11; obtain ⟨k0, k1, k2, k3, k4, k5, k6, k7, k8, k9, k10, k11⟩ := HR2.out.cells; simp only at k0 k1 k2 k3 k4 k5 k6 k7 k8 k9 k10 k11; clear c0 c1 c2 c3 c4 c5 c6 c7 c8 c9 c10 c11 hfr; obtain ⟨c0, c1, c2, c3, c4, c5, c6, c7, c8, c9, c10, c11⟩ := HX2.out.cells; have hfr := HX2.out.fr; simp only [rcZ] at c0 c1 c2 c3 c4 c5 c6 c7 c8 c9 c10 c11; clear hb))
            refine bodyPost_ret (v := .tuple #[.agg (Rc.cells ⟨s0, s1, s2, sa, sb, s5, s6, s7, s8, b9, s10, b11⟩), .int .i64 0]) ?_ rfl (decOut_of HD.out rfl ?_)
            · exact results_cell2 (p := 2) (u := 3) rfl _ _ w.heap.size 31 (Rc.cells ⟨s0, s1, s2, sa, sb, s5, s6, s7, s8, b9, s10, b11⟩) (0, 0) _ rfl (RcB.put ⟨s0, s1, s2, sa, sb, s5, s6, s7, s8, b9, s10, b11⟩ HX2.out) Try.underlying31 rfl rfl
            · repeat' apply Below.setCell
              all_goals first | exact HL0.out.trans (HB2.out.mono HL0.out.size) | exact Nat.le_refl _
          · have hxq : (xx == 0) = false := by simp [hx0]
            have hxq2 : (xx != 0) = true := by simp [hx0]
            have HD : Hid (decP l = (rcZ, xx)) := Lib.hid (by rw [HC4.out]; simp [hx0])
            clear hx0
            go_wp2_with (first
              | (go_at_call 30; (with_reducible refine HR.out.mono ?_); rintro e w1 ⟨rfl, hb⟩; have HX1 := Lib.hid (HXQ.out.below hb (heap_lt HXQ.out)); have HB1 := Lib.hid (HBQ.out.trans (hb.mono HBQ.out.size)); clear c0 c1 c2 c3 c4 c5 c6 c7 c8 c9 c10 c11 hfr; obtain ⟨c0, c1, c2, c3, c4, c5, c6, c7, c8, c9, c10, c11⟩ := HX1.out.cells; have hfr := HX1.out.fr; simp only [rcZ] at c0 c1 c2 c3 c4 c5 c6 c7 c8 c9 c10 c11; have HR1 : Hid (RcB (w1.alloc (.cells #[.int .i64 s0, .int .i64 s1, .int .i64 s2, .string sa, .string sb, .int .i64 s5, .int .i64 s6, .int .i64 s7, .int .i64 s8, .bool b9, .int .i64 s10, .bool b11] 31)) w1.heap.size ⟨s0, s1, s2, sa, sb, s5, s6, s7, s8, b9, s10, b11⟩) := Lib.hid (heap_alloc_new w1 _); obtain ⟨k0, k1, k2, k3, k4, k5, k6, k7, k8, k9, k10, k11⟩ := HR1.out.cells; simp only at k0 k1 k2 k3 k4 k5 k6 k7 k8 k9 k10 k11; clear hb)
              | (go_at_call 24; (with_reducible refine (HCK.out _).mono ?_); rintro e w2 ⟨rfl, hb⟩; have HX2 := Lib.hid ((HX1.out.below (below_lit w1 _) (heap_lt HX1.out)).below hb (by have := heap_lt HX1.out; simp; omega)); have HB2 := Lib.hid ((HB1.out.alloc HB1.out.size _).trans (hb.mono (by have := HB1.out.size; simp; omega))); clear k0 k1 k2 k3 k4 k5 k6 k7 k8 k9 k10 k11; clear c0 c1 c2 c3 c4 c5 c6 c7 c8 c9 c10 c11 hfr; obtain ⟨c0, c1, c2, c3, c4, c5, c6, c7, c8, c9, c10, c11⟩ := HX2.out.cells; have hfr := HX2.out.fr; simp only [rcZ] at c0 c1 c2 c3 c4 c5 c6 c7 c8 c9 c10 c11; clear hb))
            refine bodyPost_ret (v := .tuple #[.agg rcZ.cells, .int .i64 xx]) ?_ rfl (decOut_of HD.out rfl ?_)
            · exact results_cell2 (p := 2) (u := 3) rfl _ _ w.heap.size 31 rcZ.cells (0, 0) _ rfl (RcB.put rcZ HX2.out) Try.underlying31 rfl rfl
            · repeat' apply Below.setCell
              all_goals first | exact HL0.out.trans (HB2.out.mono HL0.out.size) | exact Nat.le_refl _
        · have HD : Hid (decP l = (rcZ, 1)) := Lib.hid (by rw [HC4.out]; simp)
          go_wp2_with (go_at_call 30; (with_reducible refine HR.out.mono ?_); rintro e w1 ⟨rfl, hb⟩; have HX1 := Lib.hid ((HXQ.out.below hb (heap_lt HXQ.out)).below (below_lit w1 (.cells #[.int .i64 s0, .int .i64 s1, .int .i64 s2, .string sa, .string sb, .int .i64 s5, .int .i64 s6, .int .i64 s7, .int .i64 s8, .bool b9, .int .i64 s10, .bool b11] 31)) (heap_lt (HXQ.out.below hb (heap_lt HXQ.out)))); have HB1 := Lib.hid (HBQ.out.trans (hb.mono HBQ.out.size)); clear c0 c1 c2 c3 c4 c5 c6 c7 c8 c9 c10 c11 hfr; obtain ⟨c0, c1, c2, c3, c4, c5, c6, c7, c8, c9, c10, c11⟩ := HX1.out.cells; have hfr := HX1.out.fr; simp only [rcZ] at c0 c1 c2 c3 c4 c5 c6 c7 c8 c9 c10 c11; clear hb)
          refine bodyPost_ret (v := .tuple #[.agg rcZ.cells, .int .i64 1]) ?_ rfl (decOut_of HD.out rfl ?_)
          · exact results_cell2 (p := 2) (u := 3) rfl _ _ w.heap.size 31 rcZ.cells (0, 0) _ rfl (RcB.put rcZ HX1.out) Try.underlying31 rfl rfl
          · repeat' apply Below.setCell
            all_goals first | exact HL0.out.trans ((HB1.out.alloc HB1.out.size _).mono HL0.out.size) | exact Nat.le_refl _
      · have hq : (x == sm) = false := by simp [hck]
        have hq2 : (x != sm) = true := by simp [hck]
        have HD : Hid (decP l = (rcZ, 4)) := Lib.hid (by rw [HDP.out, if_pos hck])
        clear hck hx hL0 hLs
        go_enter Try.func16, Try.ntmps16
        go_wp2_with fail
        refine wp_region_quiet_below (by kernel_rfl) (by kernel_rfl) ?_
        iterate 8 (go_big_quiet_step (with_reducible exact Calls.regrown_of (ESM.out _ (below_regrown _ _ _))))
        refine wpQuiet_nil ?_
        intro Wq hw'
        have hbq : Below L.heap.size L Wq := by
          obtain ⟨⟨dq, osq⟩, hw''⟩ := hw'
          rw [hw'']; exact below_regrown _ _ _
        clear hw'
        have HBQ := Lib.hid hbq
        have HXQ := Lib.hid (HX.out.below hbq (by have := HLS.out; omega))
        clear hbq r44 hcx' c0 c1 c2 c3 c4 c5 c6 c7 c8 c9 c10 c11 hfr
        obtain ⟨c0, c1, c2, c3, c4, c5, c6, c7, c8, c9, c10, c11⟩ := HXQ.out.cells
        have hfr := HXQ.out.fr
        simp only [rcZ] at c0 c1 c2 c3 c4 c5 c6 c7 c8 c9 c10 c11
        go_wp2_with fail
        refine bodyPost_ret (v := .tuple #[.agg rcZ.cells, .int .i64 4]) ?_ rfl (decOut_of HD.out rfl ?_)
        · exact results_cell2 (p := 2) (u := 3) rfl _ _ w.heap.size 31 rcZ.cells (0, 0) _ rfl (RcB.put rcZ HXQ.out) Try.underlying31 rfl rfl
        · repeat' apply Below.setCell
          all_goals first | exact HL0.out.trans (HBQ.out.mono HL0.out.size) | exact Nat.le_refl _
end Go.Proofs.Ytblhpbheejemnaa
