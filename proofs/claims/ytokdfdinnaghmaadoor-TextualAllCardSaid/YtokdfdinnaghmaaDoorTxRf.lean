/- Walks: Encode and Decode of the reference. -/
import Derived.Test.YtokdfdinnaghmaaDoorTxRe
import Derived.Test.YtokdfdinnaghmaaDoorTxEd
namespace Go.Proofs.YtokdfdinnaghmaaDoor.Tx
open Go Go.Lib Go.RowKit Go.Proofs.YtokdfdinnaghmaaDoor

theorem splA_len_le (c : UInt8) : ∀ (l cur : Wd), (splA c cur l).length ≤ l.length + 1
  | [], cur => by simp [splA]
  | x :: t, cur => by
    rw [splA]
    split
    · have := splA_len_le c t []; simp only [List.length_cons]; omega
    · have := splA_len_le c t (cur ++ [x]); simp only [List.length_cons]; omega
theorem spl_len_le (c : UInt8) (l : Wd) : (spl c l).length ≤ l.length + 1 := splA_len_le c l []
theorem parse_of {s : ByteArray} {w0 : World} {B : Nat} {v : Value} {l : List ByteArray} (hl : byt l = spl 32 s.data.toList) (hz : ∀ x ∈ l, x.size ≤ maxLen) (ho : w0.ownsRow B 9 1 v l.length (l.map Value.string)) (hn : ∀ l : List ByteArray, byt l = spl 32 s.data.toList → l.length ≤ 1000000) :
    ∃ p c, v = .slice p l.length c ∧ Calls Tryd.prog 25 #[.slice p l.length c] w0 (ParseOut (spl 32 s.data.toList) w0) := by
  obtain ⟨p, c, rfl⟩ := own_slice ho
  refine ⟨p, c, rfl, ?_⟩
  rw [← hl]
  exact parse_any ho rfl (hn l hl) hz
set_option maxRecDepth 100000 in
set_option maxHeartbeats 8000000 in
theorem refEncode_no (r : Rc) (hc : chkR r ≠ 0) (ha : r.sa.size ≤ maxLen) (hb : r.sb.size ≤ maxLen) (w : World) : Calls Tryd.prog 11 #[.agg r.cells] w fun e w' => e = .returned (.tuple #[.string ⟨#[]⟩, .int .i64 (chkR r)]) ∧ Below w.heap.size w w' := by
  have hck := refErr_any r ha hb
  obtain ⟨L, hL, hL0, hx, hLs⟩ := rec_world w r
  obtain ⟨k0, k1, k2, k3, k4, k5, k6, k7, k8, k9, k10, k11⟩ := hx.cells
  have HL0 := Lib.hid hL0
  obtain ⟨x, hxe⟩ : ∃ x, chkR r = x := ⟨_, rfl⟩
  rw [hxe] at hck hc ⊢
  obtain ⟨s0, s1, s2, sa, sb, s5, s6, s7, s8, b9, s10, b11⟩ := r
  simp only [Rc.cells] at hck hL ⊢
  have HCK := Lib.hid hck
  have hx0 : (x != 0) = true := by simp [hc]
  clear hck hx hL0 hLs hxe ha hb hc
  go_enter Tryd.func11, Tryd.ntmps11
  go_wp2_with (go_at_call 22; (with_reducible refine (HCK.out _).mono ?_); rintro e w1 ⟨rfl, hb1⟩)
  go_ret2
  exact ⟨rfl, HL0.out.trans (hb1.mono HL0.out.size)⟩
/-- Encode of the reference. -/
theorem refEncode_any (r : Rc) (ha : r.sa.size ≤ maxLen) (hb : r.sb.size ≤ maxLen) (w : World) : Calls Tryd.prog 11 #[.agg r.cells] w (EncT r w) := by
  by_cases hc : chkR r = 0
  · refine (refEncode_ok r hc w).mono fun e w' h => ?_
    unfold EncT encT; rw [if_pos hc, hc]; exact h
  · refine (refEncode_no r hc ha hb w).mono fun e w' h => ?_
    unfold EncT encT; rw [if_neg hc]; exact h
set_option maxRecDepth 100000 in
set_option maxHeartbeats 8000000 in
theorem refDecode_any (s : ByteArray) (w : World) (hs : s.size ≤ 900000) : Calls Tryd.prog 13 #[.string s] w (DecT s.data.toList w) := by
  obtain ⟨L, hL, hL0, hx, hLs⟩ := rec_world w rcZ
  have hwd := words_any s L (by omega)
  have HWD := Lib.hid hwd
  have HNN : Hid (∀ l : List ByteArray, byt l = spl 32 s.data.toList → l.length ≤ 1000000) := Lib.hid (fun l h => by rw [← byt_len, h]; have := spl_len_le 32 s.data.toList; rw [bsz] at this; omega)
  clear hwd hs
  have hrd : True := trivial
  have HX := Lib.hid hx; have HL0 := Lib.hid hL0; have HLS := Lib.hid hLs
  obtain ⟨c0, c1, c2, c3, c4, c5, c6, c7, c8, c9, c10, c11⟩ := HX.out.cells
  have hfr := HX.out.fr
  simp only [rcZ] at c0 c1 c2 c3 c4 c5 c6 c7 c8 c9 c10 c11
  simp only [Rc.cells, rcZ] at hL
  clear hx hL0 hLs
  cases hp : parseW (spl 32 s.data.toList) with
  | none =>
    have HR := Lib.hid ((fun (a : Array Value) (W : World) (h : Calls Tryd.prog 25 a W (ParseOut (spl 32 s.data.toList) W)) => po_none hp h))
    have HD := Lib.hid (dec_none hp)
    clear hrd hp
    go_enter Tryd.func13, Tryd.ntmps13
    go_wp2_with (first | (go_at_call 26; (with_reducible refine HWD.out.mono ?_); rintro e w0 ⟨v, l, rfl, hl, hz, ho, hb0⟩; obtain ⟨p, c, rfl, hpc⟩ := parse_of hl hz ho HNN.out; have HPC := Lib.hid hpc; have HX0 := Lib.hid (HX.out.below hb0 (RcB.lt HX.out)); have HB0 := Lib.hid (HL0.out.trans (hb0.mono HL0.out.size)); clear hpc hl hz ho hb0) | (go_at_call 25; (with_reducible refine (HR.out _ _ HPC.out).mono ?_); rintro e w1 ⟨⟨s0, s1, s2, sa, sb, s5, s6, s7, s8, b9, s10, b11⟩, rfl, hb1⟩; simp only [Rc.cells]; have HX1 := Lib.hid ((HX0.out.below hb1 (RcB.lt HX0.out)).below (below_lit w1 (.cells #[.int .i64 s0, .int .i64 s1, .int .i64 s2, .string sa, .string sb, .int .i64 s5, .int .i64 s6, .int .i64 s7, .int .i64 s8, .bool b9, .int .i64 s10, .bool b11] 23)) (Nat.lt_of_lt_of_le (RcB.lt HX0.out) hb1.size)); have HB1 := Lib.hid ((HB0.out.trans (hb1.mono HB0.out.size)).alloc (Nat.le_trans HB0.out.size hb1.size) (.cells #[.int .i64 s0, .int .i64 s1, .int .i64 s2, .string sa, .string sb, .int .i64 s5, .int .i64 s6, .int .i64 s7, .int .i64 s8, .bool b9, .int .i64 s10, .bool b11] 23)); have HR1 := Lib.hid (show RcB (w1.alloc (.cells #[.int .i64 s0, .int .i64 s1, .int .i64 s2, .string sa, .string sb, .int .i64 s5, .int .i64 s6, .int .i64 s7, .int .i64 s8, .bool b9, .int .i64 s10, .bool b11] 23)) w1.heap.size ⟨s0, s1, s2, sa, sb, s5, s6, s7, s8, b9, s10, b11⟩ from new_at _ _); clear hb1; clear c0 c1 c2 c3 c4 c5 c6 c7 c8 c9 c10 c11 hfr; obtain ⟨c0, c1, c2, c3, c4, c5, c6, c7, c8, c9, c10, c11⟩ := HX1.out.cells; have hfr := HX1.out.fr; simp only [rcZ] at c0 c1 c2 c3 c4 c5 c6 c7 c8 c9 c10 c11; obtain ⟨k0, k1, k2, k3, k4, k5, k6, k7, k8, k9, k10, k11⟩ := HR1.out.cells))
    refine bodyPost_ret (v := .tuple #[.agg (Rc.cells rcZ), .int .i64 1]) ?_ rfl (decT_of HD.out rfl ?_)
    · exact results_cell2 (p := 2) (u := 3) rfl _ _ w.heap.size 23 (Rc.cells rcZ) (0, 0) _ rfl (put12 0 0 0 ⟨#[]⟩ ⟨#[]⟩ 0 0 0 0 false 0 false HX1.out) Tryd.underlying23 rfl rfl
    · exact below12' HB1.out (Nat.le_refl _) _ _ _ _ _ _ _ _ _ _ _ _
  | some n =>
    obtain ⟨r, hr⟩ : ∃ r, rcN n = r := ⟨_, rfl⟩
    have hsm := (fun (a : Array Value) (W : World) (h : Calls Tryd.prog 25 a W (ParseOut (spl 32 s.data.toList) W)) => po_some hp h)
    have hdb := dec_bad hp; have hdo := dec_other hp; have hdy := dec_yes hp
    rw [hr] at hsm hdb hdo hdy
    clear hrd hp hr
    obtain ⟨x, hxe⟩ : ∃ x, chkR r = x := ⟨_, rfl⟩
    by_cases hc : chkR r = 0
    · obtain ⟨ln, hln⟩ : ∃ ln : ByteArray, S (lineR r) = ln := ⟨_, rfl⟩
      have hw := refEncode_ok r hc
      rw [hln] at hw
      by_cases hl : lineR r = s.data.toList
      · have e : ln = s := by rw [← hln, hl, S_of]
        rw [e] at hw
        have hd := hdy hc hl
        obtain ⟨s0, s1, s2, sa, sb, s5, s6, s7, s8, b9, s10, b11⟩ := r
        simp only [Rc.cells] at hsm hw
        have HD := Lib.hid hd; have HR := Lib.hid hsm; have HW := Lib.hid hw
        clear hd hsm hw hl e hln hxe hdb hdo hdy hc
        go_enter Tryd.func13, Tryd.ntmps13
        go_wp2_with (first | (go_at_call 26; (with_reducible refine HWD.out.mono ?_); rintro e w0 ⟨v, l, rfl, hl, hz, ho, hb0⟩; obtain ⟨p, c, rfl, hpc⟩ := parse_of hl hz ho HNN.out; have HPC := Lib.hid hpc; have HX0 := Lib.hid (HX.out.below hb0 (RcB.lt HX.out)); have HB0 := Lib.hid (HL0.out.trans (hb0.mono HL0.out.size)); clear hpc hl hz ho hb0) | (go_at_call 25; (with_reducible refine (HR.out _ _ HPC.out).mono ?_); rintro e w1 ⟨rfl, za, zb, hb1⟩; have HX1 := Lib.hid ((HX0.out.below hb1 (RcB.lt HX0.out)).below (below_lit w1 (.cells #[.int .i64 s0, .int .i64 s1, .int .i64 s2, .string sa, .string sb, .int .i64 s5, .int .i64 s6, .int .i64 s7, .int .i64 s8, .bool b9, .int .i64 s10, .bool b11] 23)) (Nat.lt_of_lt_of_le (RcB.lt HX0.out) hb1.size)); have HB1 := Lib.hid ((HB0.out.trans (hb1.mono HB0.out.size)).alloc (Nat.le_trans HB0.out.size hb1.size) (.cells #[.int .i64 s0, .int .i64 s1, .int .i64 s2, .string sa, .string sb, .int .i64 s5, .int .i64 s6, .int .i64 s7, .int .i64 s8, .bool b9, .int .i64 s10, .bool b11] 23)); have HR1 := Lib.hid (show RcB (w1.alloc (.cells #[.int .i64 s0, .int .i64 s1, .int .i64 s2, .string sa, .string sb, .int .i64 s5, .int .i64 s6, .int .i64 s7, .int .i64 s8, .bool b9, .int .i64 s10, .bool b11] 23)) w1.heap.size ⟨s0, s1, s2, sa, sb, s5, s6, s7, s8, b9, s10, b11⟩ from new_at _ _); clear hb1; clear c0 c1 c2 c3 c4 c5 c6 c7 c8 c9 c10 c11 hfr; obtain ⟨c0, c1, c2, c3, c4, c5, c6, c7, c8, c9, c10, c11⟩ := HX1.out.cells; have hfr := HX1.out.fr; simp only [rcZ] at c0 c1 c2 c3 c4 c5 c6 c7 c8 c9 c10 c11; obtain ⟨k0, k1, k2, k3, k4, k5, k6, k7, k8, k9, k10, k11⟩ := HR1.out.cells) | (go_at_call 11; (with_reducible refine (HW.out _).mono ?_); rintro e w2 ⟨rfl, hb2⟩; have HX2 := Lib.hid (HX1.out.below hb2 (RcB.lt HX1.out)); have HR2 := Lib.hid (HR1.out.below hb2 (RcB.lt HR1.out)); have HB2 := Lib.hid (HB1.out.trans (hb2.mono HB1.out.size)); clear hb2; clear c0 c1 c2 c3 c4 c5 c6 c7 c8 c9 c10 c11 k0 k1 k2 k3 k4 k5 k6 k7 k8 k9 k10 k11 hfr; obtain ⟨c0, c1, c2, c3, c4, c5, c6, c7, c8, c9, c10, c11⟩ := HX2.out.cells; have hfr := HX2.out.fr; simp only [rcZ] at c0 c1 c2 c3 c4 c5 c6 c7 c8 c9 c10 c11; obtain ⟨k0, k1, k2, k3, k4, k5, k6, k7, k8, k9, k10, k11⟩ := HR2.out.cells))
        refine bodyPost_ret (v := .tuple #[.agg (Rc.cells (⟨s0, s1, s2, sa, sb, s5, s6, s7, s8, b9, s10, b11⟩ : Rc)), .int .i64 0]) ?_ rfl (decT_of HD.out rfl ?_)
        · exact results_cell2 (p := 2) (u := 3) rfl _ _ w.heap.size 23 (Rc.cells (⟨s0, s1, s2, sa, sb, s5, s6, s7, s8, b9, s10, b11⟩ : Rc)) (0, 0) _ rfl (put12 s0 s1 s2 sa sb s5 s6 s7 s8 b9 s10 b11 HX2.out) Tryd.underlying23 rfl rfl
        · exact below12' HB2.out (Nat.le_refl _) _ _ _ _ _ _ _ _ _ _ _ _
      · have e : ln.data.toList ≠ s.data.toList := by rw [← hln, S_data]; exact hl
        have e1 := str_ne1 e; have e2 := str_ne2 e; have e3 := str_ne3 e
        have hd := hdo hc hl
        obtain ⟨s0, s1, s2, sa, sb, s5, s6, s7, s8, b9, s10, b11⟩ := r
        simp only [Rc.cells] at hsm hw
        have HD := Lib.hid hd; have HR := Lib.hid hsm; have HW := Lib.hid hw
        clear hd hsm hw hl e hln hxe hdb hdo hdy hc
        go_enter Tryd.func13, Tryd.ntmps13
        go_wp2_with (first | (go_at_call 26; (with_reducible refine HWD.out.mono ?_); rintro e w0 ⟨v, l, rfl, hl, hz, ho, hb0⟩; obtain ⟨p, c, rfl, hpc⟩ := parse_of hl hz ho HNN.out; have HPC := Lib.hid hpc; have HX0 := Lib.hid (HX.out.below hb0 (RcB.lt HX.out)); have HB0 := Lib.hid (HL0.out.trans (hb0.mono HL0.out.size)); clear hpc hl hz ho hb0) | (go_at_call 25; (with_reducible refine (HR.out _ _ HPC.out).mono ?_); rintro e w1 ⟨rfl, za, zb, hb1⟩; have HX1 := Lib.hid ((HX0.out.below hb1 (RcB.lt HX0.out)).below (below_lit w1 (.cells #[.int .i64 s0, .int .i64 s1, .int .i64 s2, .string sa, .string sb, .int .i64 s5, .int .i64 s6, .int .i64 s7, .int .i64 s8, .bool b9, .int .i64 s10, .bool b11] 23)) (Nat.lt_of_lt_of_le (RcB.lt HX0.out) hb1.size)); have HB1 := Lib.hid ((HB0.out.trans (hb1.mono HB0.out.size)).alloc (Nat.le_trans HB0.out.size hb1.size) (.cells #[.int .i64 s0, .int .i64 s1, .int .i64 s2, .string sa, .string sb, .int .i64 s5, .int .i64 s6, .int .i64 s7, .int .i64 s8, .bool b9, .int .i64 s10, .bool b11] 23)); have HR1 := Lib.hid (show RcB (w1.alloc (.cells #[.int .i64 s0, .int .i64 s1, .int .i64 s2, .string sa, .string sb, .int .i64 s5, .int .i64 s6, .int .i64 s7, .int .i64 s8, .bool b9, .int .i64 s10, .bool b11] 23)) w1.heap.size ⟨s0, s1, s2, sa, sb, s5, s6, s7, s8, b9, s10, b11⟩ from new_at _ _); clear hb1; clear c0 c1 c2 c3 c4 c5 c6 c7 c8 c9 c10 c11 hfr; obtain ⟨c0, c1, c2, c3, c4, c5, c6, c7, c8, c9, c10, c11⟩ := HX1.out.cells; have hfr := HX1.out.fr; simp only [rcZ] at c0 c1 c2 c3 c4 c5 c6 c7 c8 c9 c10 c11; obtain ⟨k0, k1, k2, k3, k4, k5, k6, k7, k8, k9, k10, k11⟩ := HR1.out.cells) | (go_at_call 11; (with_reducible refine (HW.out _).mono ?_); rintro e w2 ⟨rfl, hb2⟩; have HX2 := Lib.hid (HX1.out.below hb2 (RcB.lt HX1.out)); have HR2 := Lib.hid (HR1.out.below hb2 (RcB.lt HR1.out)); have HB2 := Lib.hid (HB1.out.trans (hb2.mono HB1.out.size)); clear hb2; clear c0 c1 c2 c3 c4 c5 c6 c7 c8 c9 c10 c11 k0 k1 k2 k3 k4 k5 k6 k7 k8 k9 k10 k11 hfr; obtain ⟨c0, c1, c2, c3, c4, c5, c6, c7, c8, c9, c10, c11⟩ := HX2.out.cells; have hfr := HX2.out.fr; simp only [rcZ] at c0 c1 c2 c3 c4 c5 c6 c7 c8 c9 c10 c11; obtain ⟨k0, k1, k2, k3, k4, k5, k6, k7, k8, k9, k10, k11⟩ := HR2.out.cells))
        refine bodyPost_ret (v := .tuple #[.agg (Rc.cells rcZ), .int .i64 1]) ?_ rfl (decT_of HD.out rfl ?_)
        · exact results_cell2 (p := 2) (u := 3) rfl _ _ w.heap.size 23 (Rc.cells rcZ) (0, 0) _ rfl (put12 0 0 0 ⟨#[]⟩ ⟨#[]⟩ 0 0 0 0 false 0 false HX2.out) Tryd.underlying23 rfl rfl
        · exact below12' HB2.out (Nat.le_refl _) _ _ _ _ _ _ _ _ _ _ _ _
    · have hd := hdb hc
      have hw := fun (za : r.sa.size ≤ maxLen) (zb : r.sb.size ≤ maxLen) => refEncode_no r hc za zb
      rw [hxe] at hd hc hw
      have hx0 : (x != 0) = true := by simp [hc]
      obtain ⟨s0, s1, s2, sa, sb, s5, s6, s7, s8, b9, s10, b11⟩ := r
      simp only [Rc.cells] at hsm hw
      have HD := Lib.hid hd; have HR := Lib.hid hsm; have HW := Lib.hid hw
      clear hd hsm hw hxe hdb hdo hdy hc
      go_enter Tryd.func13, Tryd.ntmps13
      go_wp2_with (first | (go_at_call 26; (with_reducible refine HWD.out.mono ?_); rintro e w0 ⟨v, l, rfl, hl, hz, ho, hb0⟩; obtain ⟨p, c, rfl, hpc⟩ := parse_of hl hz ho HNN.out; have HPC := Lib.hid hpc; have HX0 := Lib.hid (HX.out.below hb0 (RcB.lt HX.out)); have HB0 := Lib.hid (HL0.out.trans (hb0.mono HL0.out.size)); clear hpc hl hz ho hb0) | (go_at_call 25; (with_reducible refine (HR.out _ _ HPC.out).mono ?_); rintro e w1 ⟨rfl, za, zb, hb1⟩; have HX1 := Lib.hid ((HX0.out.below hb1 (RcB.lt HX0.out)).below (below_lit w1 (.cells #[.int .i64 s0, .int .i64 s1, .int .i64 s2, .string sa, .string sb, .int .i64 s5, .int .i64 s6, .int .i64 s7, .int .i64 s8, .bool b9, .int .i64 s10, .bool b11] 23)) (Nat.lt_of_lt_of_le (RcB.lt HX0.out) hb1.size)); have HB1 := Lib.hid ((HB0.out.trans (hb1.mono HB0.out.size)).alloc (Nat.le_trans HB0.out.size hb1.size) (.cells #[.int .i64 s0, .int .i64 s1, .int .i64 s2, .string sa, .string sb, .int .i64 s5, .int .i64 s6, .int .i64 s7, .int .i64 s8, .bool b9, .int .i64 s10, .bool b11] 23)); have HR1 := Lib.hid (show RcB (w1.alloc (.cells #[.int .i64 s0, .int .i64 s1, .int .i64 s2, .string sa, .string sb, .int .i64 s5, .int .i64 s6, .int .i64 s7, .int .i64 s8, .bool b9, .int .i64 s10, .bool b11] 23)) w1.heap.size ⟨s0, s1, s2, sa, sb, s5, s6, s7, s8, b9, s10, b11⟩ from new_at _ _); clear hb1; clear c0 c1 c2 c3 c4 c5 c6 c7 c8 c9 c10 c11 hfr; obtain ⟨c0, c1, c2, c3, c4, c5, c6, c7, c8, c9, c10, c11⟩ := HX1.out.cells; have hfr := HX1.out.fr; simp only [rcZ] at c0 c1 c2 c3 c4 c5 c6 c7 c8 c9 c10 c11; obtain ⟨k0, k1, k2, k3, k4, k5, k6, k7, k8, k9, k10, k11⟩ := HR1.out.cells) | (go_at_call 11; (with_reducible refine (HW.out za zb _).mono ?_); rintro e w2 ⟨rfl, hb2⟩; have HX2 := Lib.hid (HX1.out.below hb2 (RcB.lt HX1.out)); have HR2 := Lib.hid (HR1.out.below hb2 (RcB.lt HR1.out)); have HB2 := Lib.hid (HB1.out.trans (hb2.mono HB1.out.size)); clear hb2; clear c0 c1 c2 c3 c4 c5 c6 c7 c8 c9 c10 c11 k0 k1 k2 k3 k4 k5 k6 k7 k8 k9 k10 k11 hfr; obtain ⟨c0, c1, c2, c3, c4, c5, c6, c7, c8, c9, c10, c11⟩ := HX2.out.cells; have hfr := HX2.out.fr; simp only [rcZ] at c0 c1 c2 c3 c4 c5 c6 c7 c8 c9 c10 c11; obtain ⟨k0, k1, k2, k3, k4, k5, k6, k7, k8, k9, k10, k11⟩ := HR2.out.cells))
      refine bodyPost_ret (v := .tuple #[.agg (Rc.cells rcZ), .int .i64 x]) ?_ rfl (decT_of HD.out rfl ?_)
      · exact results_cell2 (p := 2) (u := 3) rfl _ _ w.heap.size 23 (Rc.cells rcZ) (0, 0) _ rfl (put12 0 0 0 ⟨#[]⟩ ⟨#[]⟩ 0 0 0 0 false 0 false HX2.out) Tryd.underlying23 rfl rfl
      · exact below12' HB2.out (Nat.le_refl _) _ _ _ _ _ _ _ _ _ _ _ _
end Go.Proofs.YtokdfdinnaghmaaDoor.Tx
