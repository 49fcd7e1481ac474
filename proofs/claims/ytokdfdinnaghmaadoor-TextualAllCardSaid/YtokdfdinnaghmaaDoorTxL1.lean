/- Walks: the laws on single records and lines. -/
import Derived.Test.YtokdfdinnaghmaaDoorTxAw
import Derived.Test.YtokdfdinnaghmaaDoorTxRf
import Derived.Test.YtokdfdinnaghmaaDoorRcArg
import Derived.Deep.Cut
namespace Go.Proofs.YtokdfdinnaghmaaDoor.Tx
open Go Go.Lib Go.RowKit Go.Proofs.YtokdfdinnaghmaaDoor

def shB (r : Rc) : Bool := decide (r.sa.size ≤ 200) && decide (r.sb.size ≤ 200)
theorem sh_sz {r : Rc} (h : shB r = true) : r.sa.size ≤ maxLen ∧ r.sb.size ≤ maxLen := by
  unfold shB at h
  simp only [Bool.and_eq_true, decide_eq_true_eq] at h
  unfold maxLen; omega
set_option maxRecDepth 100000 in
set_option maxHeartbeats 4000000 in
theorem short_any (r : Rc) (w : World) : Calls Tryd.prog 8 #[.agg r.cells] w fun e w' => e = .returned (.bool (shB r)) ∧ Below w.heap.size w w' := by
  obtain ⟨L, hL, hL0, hx, hLs⟩ := rec_world w r
  have HL0 := Lib.hid hL0
  obtain ⟨k0, k1, k2, k3, k4, k5, k6, k7, k8, k9, k10, k11⟩ := hx.cells
  clear hL0 hx hLs
  obtain ⟨s0, s1, s2, sa, sb, s5, s6, s7, s8, b9, s10, b11⟩ := r
  simp only [Rc.cells] at hL ⊢
  simp only at k0 k1 k2 k3 k4 k5 k6 k7 k8 k9 k10 k11
  by_cases h1 : sa.size ≤ 200
  · have i1 : decide ((sa.size : Int) ≤ 200) = true := decide_eq_true (by omega)
    by_cases h2 : sb.size ≤ 200
    · have i2 : decide ((sb.size : Int) ≤ 200) = true := decide_eq_true (by omega)
      have HS : Hid (shB ⟨s0, s1, s2, sa, sb, s5, s6, s7, s8, b9, s10, b11⟩ = true) := Lib.hid (by simp [shB, h1, h2])
      clear h1 h2
      go_enter Tryd.func8, Tryd.ntmps8
      go_wp2
      go_ret
      exact ⟨by rw [HS.out] <;> rfl, HL0.out⟩
    · have i2 : decide ((sb.size : Int) ≤ 200) = false := decide_eq_false (by omega)
      have HS : Hid (shB ⟨s0, s1, s2, sa, sb, s5, s6, s7, s8, b9, s10, b11⟩ = false) := Lib.hid (by simp [shB, h2])
      clear h1 h2
      go_enter Tryd.func8, Tryd.ntmps8
      go_wp2
      go_ret
      exact ⟨by rw [HS.out] <;> rfl, HL0.out⟩
  · have i1 : decide ((sa.size : Int) ≤ 200) = false := decide_eq_false (by omega)
    have HS : Hid (shB ⟨s0, s1, s2, sa, sb, s5, s6, s7, s8, b9, s10, b11⟩ = false) := Lib.hid (by simp [shB, h1])
    clear h1
    go_enter Tryd.func8, Tryd.ntmps8
    go_wp2
    go_ret
    exact ⟨by rw [HS.out] <;> rfl, HL0.out⟩
theorem short_is {r : Rc} {b : Bool} (h : shB r = b) (w : World) : Calls Tryd.prog 8 #[.agg r.cells] w fun e w' => e = .returned (.bool b) ∧ Below w.heap.size w w' := h ▸ short_any r w
theorem enc_gives {r : Rc} {s : ByteArray} {x : Int} (hs : encT r = s) (hx : chkR r = x) (ha : r.sa.size ≤ maxLen) (hb : r.sb.size ≤ maxLen) (w : World) (hE : Env w) : Calls Tryd.prog 10 #[.agg r.cells] w fun e w' => e = .returned (.tuple #[.string s, .int .i64 x]) ∧ Below w.heap.size w w' := by
  have := encode_any r ha hb w hE.tab
  unfold EncT at this
  rw [hs, hx] at this; exact this
theorem renc_gives {r : Rc} {s : ByteArray} {x : Int} (hs : encT r = s) (hx : chkR r = x) (ha : r.sa.size ≤ maxLen) (hb : r.sb.size ≤ maxLen) (w : World) : Calls Tryd.prog 11 #[.agg r.cells] w fun e w' => e = .returned (.tuple #[.string s, .int .i64 x]) ∧ Below w.heap.size w w' := by
  have := refEncode_any r ha hb w
  unfold EncT at this
  rw [hs, hx] at this; exact this
theorem dec_gives {s : ByteArray} {q : Rc} {x : Int} (hd : decT s.data.toList = (q, x)) (hs : s.size ≤ 900000) (w : World) (hE : Env w) : Calls Tryd.prog 12 #[.string s] w fun e w' => e = .returned (.tuple #[.agg q.cells, .int .i64 x]) ∧ Below w.heap.size w w' := by
  have := decode_any s w (by unfold maxLen; omega) hE.idx hE.tab
  unfold DecT at this
  rw [hd] at this; exact this
theorem rdec_gives {s : ByteArray} {q : Rc} {x : Int} (hd : decT s.data.toList = (q, x)) (hs : s.size ≤ 900000) (w : World) : Calls Tryd.prog 13 #[.string s] w fun e w' => e = .returned (.tuple #[.agg q.cells, .int .i64 x]) ∧ Below w.heap.size w w' := by
  have := refDecode_any s w hs
  unfold DecT at this
  rw [hd] at this; exact this
set_option maxRecDepth 100000 in
set_option maxHeartbeats 8000000 in
theorem walkTextualEncodes (r : Rc) (w : World) (_hr : r.Nums) (hE : Env w) : Calls Tryd.prog 3 #[.agg r.cells] w fun e w' => e = .returned (.bool true) ∧ Below w.heap.size w w' := by
  have HV : Hid (∀ W, Below w.heap.size w W → Env W) := Lib.hid fun W h => hE.below h
  obtain ⟨L, hL, hL0, hx, hLs⟩ := rec_world w r
  have HX := Lib.hid hx; have HL0 := Lib.hid hL0; have HLS := Lib.hid hLs
  obtain ⟨k0, k1, k2, k3, k4, k5, k6, k7, k8, k9, k10, k11⟩ := hx.cells
  clear hE hx hL0 hLs
  cases hs : shB r with
  | false =>
    have hsh := short_is hs
    obtain ⟨s0, s1, s2, sa, sb, s5, s6, s7, s8, b9, s10, b11⟩ := r
    simp only [Rc.cells] at hL hsh ⊢
    simp only at k0 k1 k2 k3 k4 k5 k6 k7 k8 k9 k10 k11
    have HSH := Lib.hid hsh
    clear hsh hs
    go_enter Tryd.func3, Tryd.ntmps3
    go_wp2_with (first
      | (go_at_call 8; (with_reducible refine (HSH.out _).mono ?_); rintro e w1 ⟨rfl, hb1⟩; have HB1 := Lib.hid (HL0.out.trans (hb1.mono HL0.out.size)); clear hb1)
      | (go_at_call 9; (with_reducible refine (alive_any _ (HV.out _ HB1.out)).mono ?_); rintro e w2 ⟨rfl, hb2⟩; have HB2 := Lib.hid (HB1.out.trans (hb2.mono HB1.out.size)); clear hb2))
    go_ret
    exact ⟨rfl, HB2.out⟩
  | true =>
    obtain ⟨za, zb⟩ := sh_sz hs
    obtain ⟨s, hes⟩ : ∃ s, encT r = s := ⟨_, rfl⟩
    obtain ⟨x, hex⟩ : ∃ x, chkR r = x := ⟨_, rfl⟩
    have hsh := short_is hs
    have h1 := enc_gives hes hex za zb
    have h2 := renc_gives hes hex za zb
    obtain ⟨s0, s1, s2, sa, sb, s5, s6, s7, s8, b9, s10, b11⟩ := r
    simp only [Rc.cells] at hL hsh h1 h2 ⊢
    simp only at k0 k1 k2 k3 k4 k5 k6 k7 k8 k9 k10 k11
    have HSH := Lib.hid hsh; have H1 := Lib.hid h1; have H2 := Lib.hid h2
    clear hsh hs h1 h2 hes hex za zb
    go_enter Tryd.func3, Tryd.ntmps3
    go_wp2_with (first
      | (go_at_call 8; (with_reducible refine (HSH.out _).mono ?_); rintro e w1 ⟨rfl, hb1⟩; have HB1 := Lib.hid (HL0.out.trans (hb1.mono HL0.out.size)); have HX1 := Lib.hid (HX.out.below hb1 (RcB.lt HX.out)); clear hb1 k0 k1 k2 k3 k4 k5 k6 k7 k8 k9 k10 k11; obtain ⟨k0, k1, k2, k3, k4, k5, k6, k7, k8, k9, k10, k11⟩ := HX1.out.cells)
      | (go_at_call 10; (with_reducible refine (H1.out _ (HV.out _ HB1.out)).mono ?_); rintro e w2 ⟨rfl, hb2⟩; have HB2 := Lib.hid (HB1.out.trans (hb2.mono HB1.out.size)); have HX2 := Lib.hid (HX1.out.below hb2 (RcB.lt HX1.out)); clear hb2 k0 k1 k2 k3 k4 k5 k6 k7 k8 k9 k10 k11; obtain ⟨k0, k1, k2, k3, k4, k5, k6, k7, k8, k9, k10, k11⟩ := HX2.out.cells)
      | (go_at_call 11; (with_reducible refine (H2.out _).mono ?_); rintro e w3 ⟨rfl, hb3⟩; have HB3 := Lib.hid (HB2.out.trans (hb3.mono HB2.out.size)); clear hb3)
      | (go_at_call 9; (with_reducible refine (alive_any _ (HV.out _ HB3.out)).mono ?_); rintro e w4 ⟨rfl, hb4⟩; have HB4 := Lib.hid (HB3.out.trans (hb4.mono HB3.out.size)); clear hb4))
    go_ret
    exact ⟨rfl, HB4.out⟩
set_option maxRecDepth 100000 in
set_option maxHeartbeats 8000000 in
theorem walkTextualDecodes (s : ByteArray) (w : World) (_hs : s.size ≤ maxLen) (hE : Env w) : Calls Tryd.prog 4 #[.string s] w fun e w' => e = .returned (.bool true) ∧ Below w.heap.size w w' := by
  have HV : Hid (∀ W, Below w.heap.size w W → Env W) := Lib.hid fun W h => hE.below h
  clear hE _hs
  by_cases hl : 500 < s.size
  · have d0 : decide ((500 : Int) < (s.size : Int)) = true := decide_eq_true (by omega)
    clear hl
    go_enter Tryd.func4, Tryd.ntmps4
    go_wp2_with (go_at_call 9; (with_reducible refine (alive_any _ (HV.out _ (Below.refl _ _))).mono ?_); rintro e w2 ⟨rfl, hb2⟩; have HB2 := Lib.hid hb2; clear hb2)
    go_ret
    exact ⟨rfl, HB2.out⟩
  · have d0 : decide ((500 : Int) < (s.size : Int)) = false := decide_eq_false (by omega)
    obtain ⟨⟨q, x⟩, hd⟩ : ∃ p, decT s.data.toList = p := ⟨_, rfl⟩
    have h1 := dec_gives hd (by omega)
    have h2 := rdec_gives hd (by omega)
    have heq := eqRec_same q
    obtain ⟨s0, s1, s2, sa, sb, s5, s6, s7, s8, b9, s10, b11⟩ := q
    simp only [Rc.cells] at h1 h2 heq
    have H1 := Lib.hid h1; have H2 := Lib.hid h2
    clear h1 h2 hd hl
    go_enter Tryd.func4, Tryd.ntmps4
    go_wp2_with (first
      | (go_at_call 12; (with_reducible refine (H1.out _ (HV.out _ (Below.refl _ _))).mono ?_); rintro e w1 ⟨rfl, hb1⟩; have HX1 := Lib.hid (show RcB (w1.alloc (.cells (Rc.cells ⟨s0, s1, s2, sa, sb, s5, s6, s7, s8, b9, s10, b11⟩) 23)) w1.heap.size ⟨s0, s1, s2, sa, sb, s5, s6, s7, s8, b9, s10, b11⟩ from new_at _ _); have HB1 := Lib.hid (hb1.alloc hb1.size (.cells (Rc.cells ⟨s0, s1, s2, sa, sb, s5, s6, s7, s8, b9, s10, b11⟩) 23)); clear hb1; simp only [Rc.cells] at HX1 HB1)
      | (go_at_call 13; (with_reducible refine (H2.out _).mono ?_); rintro e w2 ⟨rfl, hb2⟩; have hx2 := (HX1.out.below hb2 (RcB.lt HX1.out)).below (below_lit w2 (.cells (Rc.cells ⟨s0, s1, s2, sa, sb, s5, s6, s7, s8, b9, s10, b11⟩) 23)) (RcB.lt (HX1.out.below hb2 (RcB.lt HX1.out))); have hy2 := (show RcB (w2.alloc (.cells (Rc.cells ⟨s0, s1, s2, sa, sb, s5, s6, s7, s8, b9, s10, b11⟩) 23)) w2.heap.size ⟨s0, s1, s2, sa, sb, s5, s6, s7, s8, b9, s10, b11⟩ from new_at _ _); have HB2 := Lib.hid ((HB1.out.trans (hb2.mono HB1.out.size)).alloc (Nat.le_trans HB1.out.size hb2.size) (.cells (Rc.cells ⟨s0, s1, s2, sa, sb, s5, s6, s7, s8, b9, s10, b11⟩) 23)); simp only [Rc.cells] at hx2 hy2 HB2; obtain ⟨k0, k1, k2, k3, k4, k5, k6, k7, k8, k9, k10, k11⟩ := hx2.cells; obtain ⟨c0, c1, c2, c3, c4, c5, c6, c7, c8, c9, c10, c11⟩ := hy2.cells; clear hb2 hx2 hy2)
      | (go_at_call 9; (with_reducible refine (alive_any _ (HV.out _ HB2.out)).mono ?_); rintro e w4 ⟨rfl, hb4⟩; have HB4 := Lib.hid (HB2.out.trans (hb4.mono HB2.out.size)); clear hb4))
    go_ret
    exact ⟨rfl, HB4.out⟩
end Go.Proofs.YtokdfdinnaghmaaDoor.Tx
