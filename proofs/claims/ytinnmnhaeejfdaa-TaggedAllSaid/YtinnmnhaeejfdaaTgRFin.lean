/- Walk: the record of bytes, in the reference, all cases. -/
import Derived.Test.YtinnmnhaeejfdaaTgRFit
import Derived.Deep.CutRange
import Derived.Deep.QuietTactic
import Derived.BigQuiet
namespace Go.Proofs.Ytinnmnhaeejfdaa
open Go.RowKit

set_option maxRecDepth 100000 in
set_option maxHeartbeats 32000000 in
theorem rdec_nil {A : Option Addr} {n c : Nat} {x y : Int} {t : List Int} {w : World} (hA : Byt w A n c (x :: y :: t)) (hn : n ≤ 100000) (hs : ¬ (t.length : Int) < x * 256 + y) (hs2 : ¬ x * 256 + y < (t.length : Int)) (hn2 : n = 2) (hc9 : c = 2) (ht : t = []) : Calls Try.prog 20 #[.slice A n c] w (DecP (x :: y :: t) w) := by
  obtain ⟨L, hL, hL0, hx, hLs⟩ := rec_world w rc0
  obtain ⟨b0, hb0⟩ : ∃ b0, w.heap.size = b0 := ⟨_, rfl⟩
  rw [hb0] at hx
  have hni : (n : Int) ≤ 100000 := by omega
  have HX := Lib.hid hx; have HL0 := Lib.hid hL0; have HB0 := Lib.hid hb0; have HLS : Hid (L.heap.size = b0 + 1) := Lib.hid (by omega)
  simp only [Rc.cells, rc0] at hL
  clear hx hL0 hLs
  have hl := hA.len
  simp only [List.length_cons] at hl
  obtain ⟨b, off, x', rfl, hx, hc, hbl⟩ := hA.at (k := 0) (by omega)
  obtain ⟨b', off', y', hA', hy, hcy, -⟩ := hA.at (k := 1) (by omega)
  obtain ⟨rfl, rfl⟩ : b = b' ∧ off = off' := by simpa using hA'
  obtain rfl : x = x' := by simpa using hx
  obtain rfl : y = y' := by simpa using hy
  rw [Nat.add_zero] at hc
  have hc0 := (HL0.out.cell (p := ⟨b, off, none⟩) hbl).trans hc
  have hc1 := (HL0.out.cell (p := ⟨b, off + 1, none⟩) hbl).trans hcy
  obtain ⟨hx0, hx1⟩ := hA.ran x (by simp)
  obtain ⟨hy0, hy1⟩ := hA.ran y (by simp)
  have h2 : ¬ (n : Int) < 2 := by omega
  have h2b : decide ((n : Int) < 2) = false := by simp; omega
  have i0 : (0 : Int) < (n : Int) := by omega
  have i1 : (1 : Int) < (n : Int) := by omega
  have s0 : IntKind.i64.wrap ((n : Int) - 2) = (n : Int) - 2 := IntWalk.i64_in _ (by omega)
  have s1 : IntKind.i64.wrap (x * 256) = x * 256 := IntWalk.i64_in _ (by omega)
  have s2 : IntKind.i64.wrap (x * 256 + y) = x * 256 + y := IntWalk.i64_in _ (by omega)
  have hnt : (n : Int) - 2 = (t.length : Int) := by omega
  subst ht hn2 hc9
  have he : (elmR []).2 = 0 := rfl
  have HA := Lib.hid hA; have HNT := Lib.hid hnt
  have hdf := dec_fit hs hs2
  have HM1 : Hid (decide ((0 : Int) < x * 256 + y) = false) := Lib.hid (decide_eq_false (by omega))
  have HM3 : Hid (decide (x * 256 + y < (0 : Int)) = false) := Lib.hid (decide_eq_false (by omega))
  have HBL := Lib.hid hbl
  have HTR : Hid (∀ e ∈ (elmR []).1, 1 ≤ e.1) := Lib.hid (elm_tags _ [] 0 (fun z hz => hA.ran z (List.mem_cons_of_mem _ (List.mem_cons_of_mem _ hz))))
  have HTL : Hid (([] : List Int).length ≤ 100000) := Lib.hid (by omega)
  have HEL := Lib.hid (elm_le (([] : List Int).length + 1) [] 0)
  have HSZ := Lib.hid (elm_sizes (([] : List Int).length + 1) [] 0)
  have HQ := Lib.hid (show Byt w (some ⟨b, off, none⟩) 0 0 [] from byt_none (by decide) (by intro h; cases h))
  rw [he, if_neg (by decide)] at hdf
  have hrn : recM rc0 (elmR []).1 = some rc0 := rfl
  have hck6 : chkR rc0 = 6 := by decide
  rw [hrn] at hdf
  simp only [hck6] at hdf
  have HDF := Lib.hid hdf
  have HX2 := Lib.hid he
  clear hA hdf hs hs2 hx hy hA' hnt hl hc hcy hbl he
  go_enter Try.func20, Try.ntmps20
  go_upto_region 1 with fail
  go_cut [30] from 12 to 87 (fun s wx => s = .bool false ∧ Below L.heap.size L wx)
  case first =>
    go_quiet (fail)
    go_wp2
    go_meet
    case rel => exact ⟨by first | rfl | rw [HM1.out], below_drawn (Below.refl _ _) _⟩
  case rest =>
    obtain ⟨rfl, hb1⟩ := hcut
    obtain ⟨w1, hw1⟩ : ∃ w1, w1 = wc := ⟨_, rfl⟩
    subst hw1
    have HB1 := Lib.hid hb1
    have HX := Lib.hid (HX.out.below hb1 (by have := HLS.out; omega))
    have hc0 := (hb1.cell (p := ⟨b, off, none⟩) (by have := HBL.out; have := HL0.out.size; show b < _; omega)).trans hc0
    have hc1 := (hb1.cell (p := ⟨b, off + 1, none⟩) (by have := HBL.out; have := HL0.out.size; show b < _; omega)).trans hc1
    clear hb1
    go_upto_region 3 with fail
    go_cut [45] from 31 to 87 (fun s wx => s = .bool false ∧ Below w1.heap.size w1 wx)
    case first =>
      go_quiet (fail)
      go_wp2
      go_meet
      case rel => exact ⟨by first | rfl | rw [HM3.out], below_drawn (Below.refl _ _) _⟩
    case rest =>
      obtain ⟨rfl, hb2⟩ := hcut
      obtain ⟨w2, hw2⟩ : ∃ w2, w2 = wc := ⟨_, rfl⟩
      subst hw2
      have HB2 := Lib.hid (HB1.out.trans (hb2.mono HB1.out.size))
      have HX := Lib.hid (HX.out.below hb2 (heap_lt HX.out))
      clear hb2 hc0 hc1
      go_wp2_with (go_at_call 15; refine (refElements_any (HQ.out.below (HL0.out.trans (HB2.out.mono HL0.out.size))) (by omega)).mono ?_; rintro e w3 ⟨h3, hb3⟩; rw [if_pos HX2.out] at h3; obtain ⟨v3, rfl, hf3⟩ := h3; obtain ⟨A1, N, c1, rfl, hN, hE3⟩ := els_n hf3; have HN3 := Lib.hid hN; have HE3 := Lib.hid hE3; have HB3 := Lib.hid (HB2.out.trans (hb3.mono HB2.out.size)); have HX := Lib.hid (HX.out.below hb3 (heap_lt HX.out)); clear hb3 hf3 hN hE3)
      obtain rfl : N = 0 := by
        have h1 := HN3.out
        rw [show (elmR []).1 = [] from rfl] at h1
        simpa using h1
      have hb03 := heap_lt HX.out
      have hre := refErr_any rc0 (by decide) (by decide)
      rw [show chkR rc0 = 6 by decide] at hre
      simp only [Rc.cells, rc0] at hre
      have HRE := Lib.hid hre
      clear hre
      go_loopw [7, 8] (fun ov i wr => i = .int .i64 0 ∧ ov = .bool true ∧ Hid (RcB wr w3.heap.size rc0) ∧ Hid (RcB wr b0 rc0) ∧ Hid (Below w3.heap.size w3 wr)) (fun _ _ _ => 0)
      case atStart => exact ⟨rfl, rfl, Lib.hid (heap_alloc_new _ _), Lib.hid (HX.out.alloc _), Lib.hid (below_lit _ _)⟩
      case round =>
        obtain ⟨rfl, rfl, HXG, HX, HB⟩ := hrel
        obtain ⟨k0, k1, k2, k3, k4, k5, k6, k7, k8, k9, k10, k11⟩ := HXG.out.cells
        simp only [rc0] at k0 k1 k2 k3 k4 k5 k6 k7 k8 k9 k10 k11
        go_wp2_with (go_at_call 28; (with_reducible refine (HRE.out _).mono ?_); rintro e w6 ⟨rfl, hb6⟩; have HX6 := Lib.hid (HX.out.below hb6 (heap_lt HX.out)); have HB6 := Lib.hid (HB.out.trans (hb6.mono HB.out.size)); clear hb6 k0 k1 k2 k3 k4 k5 k6 k7 k8 k9 k10 k11; obtain ⟨q0, q1, q2, q3, q4, q5, q6, q7, q8, q9, q10, q11⟩ := HX6.out.cells; have hfr := HX6.out.fr)
        refine bodyPost_ret (v := .tuple #[.agg rc0.cells, .int .i64 6]) ?_ rfl ⟨by rw [HDF.out]; rfl, ?_⟩
        · exact results_cell2 (p := 2) (u := 3) rfl _ _ b0 34 rc0.cells (0, 0) _ rfl (RcB.put rc0 HX6.out) Try.underlying34 rfl rfl
        · rw [HB0.out]
          have h9 := HB0.out ▸ HL0.out.trans (Below.mono (HB3.out.trans (HB6.out.mono HB3.out.size)) HL0.out.size)
          repeat' apply Below.setCell
          all_goals first | exact h9 | exact Nat.le_refl _
theorem refDecode_any {A : Option Addr} {n c : Nat} {l : List Int} {w : World} (hA : Byt w A n c l) (hn : n ≤ 100000) : Calls Try.prog 20 #[.slice A n c] w (DecP l w) := by
  have hl := hA.len
  match l, hl, hA with
  | [], hl, hA => exact rdec_short hA hn (by simp at hl; omega)
  | [_], hl, hA => exact rdec_short hA hn (by simp at hl; omega)
  | x :: y :: t, hl, hA =>
    simp only [List.length_cons] at hl
    by_cases h1 : (t.length : Int) < x * 256 + y
    · exact rdec_torn hA hn h1
    · by_cases h2 : x * 256 + y < (t.length : Int)
      · exact rdec_more hA hn h1 h2
      · by_cases hc : c = 2
        · have ht : t = [] := List.length_eq_zero_iff.1 (by have := hA.cap; omega)
          exact rdec_nil hA hn h1 h2 (by rw [ht] at hl; simp at hl; omega) hc ht
        · by_cases he : (elmR t).2 = 0
          · exact rdec_fit hA hn h1 h2 hc he
          · exact rdec_bad hA hn h1 h2 hc rfl he
end Go.Proofs.Ytinnmnhaeejfdaa
