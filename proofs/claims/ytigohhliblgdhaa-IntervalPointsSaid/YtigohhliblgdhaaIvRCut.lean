/- Walk of the reference: a period is divided. -/
import Derived.Test.YtigohhliblgdhaaIvAdd
import Derived.Test.YtigohhliblgdhaaIvCut
namespace Go.Proofs.Ytigohhliblgdhaa
open Go.RowKit

theorem IR.drewN {w : World} {A : Option Addr} {l : List Int} (h : IR w A l) (k : Nat) : IR (w.drewN k) A l := h
theorem cutE_step {a b : Int} {l : List Int} {k : Nat} {y : Int} (h : k < l.length) (hy : l.getD k 0 = y) : cutE a b (l.take (k + 1)) = if a < y ∧ y < b then adL (cutE a b (l.take k)) y else cutE a b (l.take k) := by
  rw [List.take_succ_eq_append_getElem h, cutE_snoc, ← hy]
  simp [List.getD, List.getElem?_eq_getElem h]
set_option maxHeartbeats 8000000 in
theorem refCut_any (a b : Int) (A : Option Addr) (n c : Nat) (l : List Int) (w : World) (hA : IR w A l) (hn : l.length = n) (hc : n ≤ c) (h5 : n ≤ 1000) :
    Calls Try.prog 18 #[.agg #[.int .i64 a, .int .i64 b], .slice A n c] w (PdOut (cutV a b l) w) := by
  obtain ⟨i0, hi0, hz0, hz1, hz2⟩ := info_parts periodInfo
  have HB := Lib.hid (Blk.new w 23 #[.int .i64 a, .int .i64 b])
  have HA := Lib.hid hA; have HN := Lib.hid hn
  clear hA hn
  cases hv : vl (a, b)
  · rw [cutV_no hv]
    have HV := Lib.hid (refValid_is a b _ hv)
    clear hv
    go_enter Try.func18, Try.ntmps18
    go_wp2_with (go_at_call 12; (with_reducible refine (HV.out _).mono ?_); rintro e w1 ⟨rfl, hb1⟩; have hb : Go.RowKit.Below w.heap.size w w1 := ((Go.RowKit.Below.refl _ w).alloc (Nat.le_refl _) _).trans (hb1.mono (by simp)))
    go_ret
    exact ⟨none, 0, rfl, Nat.le_refl _, PR.nil, hb⟩
  · rw [cutV_yes hv]
    have HV := Lib.hid (refValid_is a b _ hv)
    have HCL := Lib.hid (cutE_length a b l)
    clear hv
    obtain ⟨L, hL⟩ : ∃ L, cutE a b l = L := ⟨_, rfl⟩
    have HL := Lib.hid hL
    rw [hL] at HCL ⊢
    clear hL
    obtain ⟨N2, hN2⟩ : ∃ N2, L.length = N2 := ⟨_, rfl⟩
    have HN2 := Lib.hid hN2
    have hlen2 : N2 ≤ n + 1 := by have := HCL.out; have := HN.out; omega
    clear hN2
    go_enter Try.func18, Try.ntmps18
    go_wp2_with (go_at_call 12; (with_reducible refine (HV.out _).mono ?_); rintro e w1 ⟨rfl, hb1⟩; have hb : Go.RowKit.Below w.heap.size w w1 := ((Go.RowKit.Below.refl _ w).alloc (Nat.le_refl _) _).trans (hb1.mono (by simp)); have hB1 := HB.out.below hb1 (by simp); obtain ⟨c0, c1⟩ := hB1.two; clear hb1)
    have hs := hb.size
    have hI1 : IR (w1.alloc (.cells #[.int .i64 b] 3)) (some ⟨w1.heap.size, 0, none⟩) [b] := by
      intro k hk
      obtain rfl : k = 0 := by simp at hk; omega
      exact ⟨w1.heap.size, 0, rfl, by simp, by rw [cell_of_row _ _ _ _ _ (0, 0) (heap_alloc_new _ _)]; rfl⟩
    clear c0 c1
    go_loopw [5, 6] (fun v i wr => ∃ (k q c1 : Nat) (A1 : Option Addr) (o : List Int), k ≤ n ∧ i = .int .i64 k ∧ v = .slice A1 q c1 ∧ q ≤ c1 ∧ q ≤ k + 1 ∧ Hid (o.length = q) ∧ Hid (IR wr A1 o) ∧ Hid (cutE a b (l.take k) = o) ∧ Go.RowKit.Below w.heap.size w wr ∧ Blk wr w.heap.size 23 #[.int .i64 a, .int .i64 b]) (fun _ i _ => n - (intOf i).toNat)
    case atStart => exact ⟨0, 1, 1, _, [b], by omega, rfl, rfl, by omega, by omega, Lib.hid rfl, Lib.hid hI1, Lib.hid (by rw [List.take_zero]; rfl), hb.alloc hs _, hB1.alloc _⟩
    case round =>
      clear hb hB1 hs hI1
      obtain ⟨k, q, c1, A1, o, hk, rfl, rfl, hqc, hq, HQ, HI, HE, hb, hB⟩ := hrel
      have hs := hb.size
      have hgl := hB.lt
      by_cases hlt : k < n
      · obtain ⟨bk, off, rfl, hbl, d0⟩ := HA.out k (by rw [HN.out]; exact hlt)
        have e0 := (hb.cell (p := ⟨bk, off + k, none⟩) hbl).trans d0
        have hlt' : (k : Int) < (n : Int) := by omega
        have h0' : (0 : Int) ≤ (k : Int) := by omega
        obtain ⟨y, hy⟩ : ∃ y, l.getD k 0 = y := ⟨_, rfl⟩
        have HF := Lib.hid (cutE_step (a := a) (b := b) (show k < l.length by rw [HN.out]; exact hlt) hy)
        rw [hy] at e0
        obtain ⟨c0, c1'⟩ := hB.two
        have HBk := Lib.hid hB
        clear hy d0 hB
        by_cases hay : a < y
        · have d1 : decide (a < y) = true := decide_eq_true hay
          by_cases hyb : y < b
          · have d2 : decide (y < b) = true := decide_eq_true hyb
            have HF2 : Hid (cutE a b (l.take (k + 1)) = adL o y) := Lib.hid (by rw [HF.out, if_pos ⟨hay, hyb⟩, HE.out])
            have HLo : Hid ((adL o y).length ≤ q + 1) := Lib.hid (by rw [← HQ.out]; exact adGo_length y o false)
            clear HF hay hyb
            go_wp2_with fail
            go_quiet (fail)
            go_wp2_with (go_at_call 32; (with_reducible refine (add_any _ _ _ o y _ (HI.out.drewN nq) HQ.out (by omega) hqc).mono ?_); rintro e w4 ⟨A4, c4, rfl, hc4, hI4, hb4⟩; have hb5 := drewN_below hb4)
            go_roundw
            case rel => exact ⟨k + 1, _, c4, A4, adL o y, by omega, by go_num, rfl, hc4, by have := HLo.out; omega, Lib.hid rfl, Lib.hid hI4, HF2, hb.trans (hb5.mono hs), HBk.out.below hb5 hgl⟩
            case measure => simp [intOf]; omega
          · have d2 : decide (y < b) = false := decide_eq_false hyb
            have HF2 : Hid (cutE a b (l.take (k + 1)) = o) := Lib.hid (by rw [HF.out, if_neg (fun h => hyb h.2), HE.out])
            clear HF hay hyb
            go_wp2_with fail
            go_quiet (fail)
            go_wp2_with fail
            go_roundw
            case rel => exact ⟨k + 1, q, c1, A1, o, by omega, by go_num, rfl, hqc, by omega, HQ, HI, HF2, below_drewN hb _, HBk.out.drewN _⟩
            case measure => simp [intOf]; omega
        · have d1 : decide (a < y) = false := decide_eq_false hay
          have HF2 : Hid (cutE a b (l.take (k + 1)) = o) := Lib.hid (by rw [HF.out, if_neg (fun h => hay h.1), HE.out])
          clear HF hay
          go_wp2_with fail
          go_quiet (fail)
          go_wp2_with fail
          go_roundw
          case rel => exact ⟨k + 1, q, c1, A1, o, by omega, by go_num, rfl, hqc, by omega, HQ, HI, HF2, below_drewN hb _, HBk.out.drewN _⟩
          case measure => simp [intOf]; omega
      · obtain rfl : k = n := by omega
        have HOL : Hid (o = L) := Lib.hid (by rw [← HE.out, ← HL.out, ← HN.out, List.take_length])
        rw [HOL.out] at HQ HI
        obtain rfl : q = N2 := by have := HQ.out; have := HN2.out; omega
        obtain ⟨c0, c1'⟩ := hB.two
        have HB0 := Lib.hid hb
        go_wp2
        clear c0 c1' hB hs
        generalize wr = w9 at *
        have hs9 := HB0.out.size
        go_loopw [7, 8, 9] (fun v fr i wx => ∃ (j : Nat), j ≤ q ∧ i = .int .i64 j ∧ fr = .int .i64 ((L.take j).getLastD a) ∧ wx.ownsRow w9.heap.size 23 2 v j (cl (prs a (L.take j))) ∧ Go.RowKit.Below w9.heap.size w9 wx) (fun _ _ i _ => q - (intOf i).toNat)
        case atStart => exact ⟨0, by omega, rfl, rfl, by rw [List.take_zero]; exact World.ownsRow_nil _ _ _ _, Go.RowKit.Below.refl _ _⟩
        case round =>
          obtain ⟨j, hj, rfl, rfl, hown, hbr⟩ := hrel
          have hsr := hbr.size
          by_cases hjt : j < q
          · obtain ⟨bk, off, rfl, hbl, d0⟩ := HI.out j (by rw [HN2.out]; exact hjt)
            have e0 := (hbr.cell (p := ⟨bk, off + j, none⟩) hbl).trans d0
            obtain ⟨hp1, hp2⟩ := prs_step (show j < L.length by rw [HN2.out]; exact hjt) a
            have HP1 := Lib.hid hp1; have HP2 := Lib.hid hp2
            clear hp1 hp2
            have hjt' : (j : Int) < (q : Int) := by omega
            have hj0' : (0 : Int) ≤ (j : Int) := by omega
            generalize (L.take j).getLastD a = fr at *
            generalize L.getD j 0 = y at *
            go_wp2_with (at_builtin; refine wpList_append_own _ rfl (.tmp 52) (.tmp 59) 31 rfl w9.heap.size 23 i0 (.agg #[.int .i64 0, .int .i64 0]) 2 16 Try.underlying31 hi0 hz0 hz1 hz2 rfl (by decide) _ _ _ rfl (World.ownsRow.alloc hown _) ⟨wr.heap.size, 0, none⟩ 1 1 [.int .i64 fr, .int .i64 y] rfl rfl (cell_two_new' _ _ _ _) (by intro u hu; simp at hu; rcases hu with rfl | rfl <;> rfl) (by unfold maxLen; omega) (by omega) (by simp; omega) ?_; intro v4 w4 hown4 hg4 _; have hb4 : Go.RowKit.Below w9.heap.size w9 w4 := (hbr.alloc hsr _).grown hg4 (by simp; omega) (fun g hg' => by have := (World.ownsRow.lt hown g hg').1; omega); have e4 := (hb4.cell (p := ⟨bk, off + j, none⟩) hbl).trans d0)
            go_roundw
            case rel => exact ⟨j + 1, by omega, by go_num, by rw [HP2.out], by rw [HP1.out, cl_append]; exact hown4, hb4⟩
            case measure => simp [intOf]; omega
          · obtain rfl : j = q := by omega
            have HT2 : Hid (L.take j = L) := Lib.hid (by rw [← HN2.out, List.take_length])
            rw [HT2.out] at hown
            go_wp2
            go_ret
            obtain ⟨A', c2, e1, e2, _, e3⟩ := pr_own hown (by rw [prs_length, HN2.out])
            have hpl : (prs a L).length = j := by rw [prs_length, HN2.out]
            exact ⟨A', c2, by simp [e1, hpl], by rw [hpl]; exact e2, e3, HB0.out.trans (hbr.mono hs9)⟩
end Go.Proofs.Ytigohhliblgdhaa
