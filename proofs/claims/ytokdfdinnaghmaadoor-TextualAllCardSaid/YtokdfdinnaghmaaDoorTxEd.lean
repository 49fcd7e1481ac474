/- Walks: Encode and Decode of the program. -/
import Derived.Test.YtokdfdinnaghmaaDoorTxWr
import Derived.Test.YtokdfdinnaghmaaDoorTxDm
import Derived.Test.YtokdfdinnaghmaaDoorTxRp
import Derived.Test.YtokdfdinnaghmaaDoorRcChk
namespace Go.Proofs.YtokdfdinnaghmaaDoor.Tx
open Go Go.Lib Go.RowKit Go.Proofs.YtokdfdinnaghmaaDoor

/-- The text of a record, if it has no error. -/
def encT (r : Rc) : ByteArray := if chkR r = 0 then S (lineR r) else ⟨#[]⟩
def EncT (r : Rc) (w : World) (e : Ending) (w' : World) : Prop := e = .returned (.tuple #[.string (encT r), .int .i64 (chkR r)]) ∧ Below w.heap.size w w'
def DecT (l : Wd) (w : World) (e : Ending) (w' : World) : Prop := e = .returned (.tuple #[.agg (decT l).1.cells, .int .i64 (decT l).2]) ∧ Below w.heap.size w w'
set_option maxRecDepth 100000 in
set_option maxHeartbeats 8000000 in
theorem encode_any (r : Rc) (ha : r.sa.size ≤ maxLen) (hb : r.sb.size ≤ maxLen) (w : World) (ht : Tab w) : Calls Tryd.prog 10 #[.agg r.cells] w (EncT r w) := by
  have hck := check_any r ha hb
  obtain ⟨L, hL, hL0, hx, hLs⟩ := rec_world w r
  have HX := Lib.hid hx; have HL0 := Lib.hid hL0; have HLS := Lib.hid hLs
  by_cases hc : chkR r = 0
  · have hw := fun W (hW : Tab W) => write_any (lr_of hc) (ln_ok hc) W hW
    have HO : Hid (∀ e w', (e = .returned (.tuple #[.string (S (lineR r)), .int .i64 0]) ∧ Below w.heap.size w w') → EncT r w e w') := Lib.hid (fun e w' h => by
      unfold EncT encT; rw [if_pos hc, hc]; exact h)
    rw [hc] at hck
    have HLN : Hid (joinW 32 (wordsL (lnR r)) = lineR r) := Lib.hid rfl
    obtain ⟨s0, s1, s2, sa, sb, s5, s6, s7, s8, b9, s10, b11⟩ := r
    simp only [Rc.cells] at hck hw hL ⊢
    have HCK := Lib.hid hck; have HW := Lib.hid hw
    have HT := Lib.hid ht
    obtain ⟨k0, k1, k2, k3, k4, k5, k6, k7, k8, k9, k10, k11⟩ := HX.out.cells
    clear hck hw ht hx hL0 hLs hc ha hb
    go_enter Tryd.func10, Tryd.ntmps10
    go_wp2_with (first
      | (go_at_call 20; (with_reducible refine (HCK.out _).mono ?_); rintro e w1 ⟨rfl, hb1⟩; have HB1 := Lib.hid (HL0.out.trans (hb1.mono (by have := HLS.out; omega))); have HX1 := Lib.hid (HX.out.below hb1 (by have := HLS.out; omega)); clear hb1 k0 k1 k2 k3 k4 k5 k6 k7 k8 k9 k10 k11; obtain ⟨k0, k1, k2, k3, k4, k5, k6, k7, k8, k9, k10, k11⟩ := HX1.out.cells)
      | (go_at_call 21; (with_reducible refine (HW.out _ (HT.out.below HB1.out)).mono ?_); rintro e w2 ⟨rfl, hb2⟩; have HB2 := Lib.hid (HB1.out.trans (hb2.mono HB1.out.size)); clear hb2))
    go_ret2
    exact HO.out _ _ ⟨by rw [HLN.out] <;> rfl, HB2.out⟩
  · have HO : Hid (∀ e w', (e = .returned (.tuple #[.string ⟨#[]⟩, .int .i64 (chkR r)]) ∧ Below w.heap.size w w') → EncT r w e w') := Lib.hid (fun e w' h => by
      unfold EncT encT; rw [if_neg hc]; exact h)
    obtain ⟨x, hxe⟩ : ∃ x, chkR r = x := ⟨_, rfl⟩
    rw [hxe] at hck hc HO
    obtain ⟨s0, s1, s2, sa, sb, s5, s6, s7, s8, b9, s10, b11⟩ := r
    simp only [Rc.cells] at hck hL ⊢
    have HCK := Lib.hid hck
    have hx0 : (x != 0) = true := by simp [hc]
    obtain ⟨k0, k1, k2, k3, k4, k5, k6, k7, k8, k9, k10, k11⟩ := HX.out.cells
    clear hck ht hx hL0 hLs hxe ha hb hc
    go_enter Tryd.func10, Tryd.ntmps10
    go_wp2_with (go_at_call 20; (with_reducible refine (HCK.out _).mono ?_); rintro e w1 ⟨rfl, hb1⟩)
    go_ret2
    exact HO.out _ _ ⟨rfl, HL0.out.trans (hb1.mono HL0.out.size)⟩
/-- What read says of the words of a line. -/
theorem read_uni (s : ByteArray) (w : World) (hs : s.size ≤ maxLen) (hv : IdxV w) : Calls Tryd.prog 24 #[.string s] w (ParseOut (spl 32 s.data.toList) w) := by
  refine (read_any s w hs hv).mono fun e w' => ?_
  rintro ⟨h1, h2, h3⟩
  by_cases hl : 13 < (spl 32 s.data.toList).length
  · obtain rfl := h1 hl
    exact parse_no (parse_long hl) h3
  · obtain ⟨r, he, hr⟩ := h2 (by omega)
    rw [read_is] at he hr
    exact ⟨⟨r, he, hr⟩, h3⟩
def NoneOut (w : World) (e : Ending) (w' : World) : Prop := ∃ r : Rc, e = .returned (.tuple #[.agg r.cells, .bool false]) ∧ Below w.heap.size w w'
theorem po_none {ws : List Wd} (h : parseW ws = none) {f : FuncId} {a : Array Value} {w : World} (hc : Calls Tryd.prog f a w (ParseOut ws w)) : Calls Tryd.prog f a w (NoneOut w) :=
  hc.mono fun e w' ⟨⟨r, he, _⟩, hb⟩ => ⟨r, by rw [he, h]; rfl, hb⟩
theorem po_some {ws : List Wd} {n : Ln} (h : parseW ws = some n) {f : FuncId} {a : Array Value} {w : World} (hc : Calls Tryd.prog f a w (ParseOut ws w)) :
    Calls Tryd.prog f a w (fun e w' => e = .returned (.tuple #[.agg (rcN n).cells, .bool true]) ∧ (rcN n).sa.size ≤ maxLen ∧ (rcN n).sb.size ≤ maxLen ∧ Below w.heap.size w w') :=
  hc.mono fun e w' ⟨⟨r, he, hr⟩, hb⟩ => by
    have hl := hr n h
    rw [← hl.eq]
    exact ⟨by rw [he, h]; rfl, hl.la, hl.lb, hb⟩
theorem decT_of {l : Wd} {r : Rc} {x : Int} (h : decT l = (r, x)) {w w' : World} {e : Ending} (h1 : e = .returned (.tuple #[.agg r.cells, .int .i64 x])) (h2 : Below w.heap.size w w') : DecT l w e w' := by
  unfold DecT; rw [h]; exact ⟨h1, h2⟩
theorem below_lit (w : World) (o : Obj) : Below w.heap.size w (w.alloc o) := (Below.refl _ _).alloc (Nat.le_refl _) _
theorem str_ne1 {a b : ByteArray} (h : a.data.toList ≠ b.data.toList) : (a.toList == b.toList) = false := by
  rw [beq_eq_false_iff_ne, ByteArray.toList_eq, ByteArray.toList_eq]; exact h
theorem str_ne2 {a b : ByteArray} (h : a.data.toList ≠ b.data.toList) : (a.toList != b.toList) = true := by
  rw [bne_iff_ne, ByteArray.toList_eq, ByteArray.toList_eq]; exact h
theorem str_ne3 {a b : ByteArray} (h : a.data.toList ≠ b.data.toList) : ¬ a = b := fun e => h (by rw [e])
set_option maxRecDepth 100000 in
set_option maxHeartbeats 8000000 in
theorem decode_any (s : ByteArray) (w : World) (hs : s.size ≤ maxLen) (hv : IdxV w) (ht : Tab w) : Calls Tryd.prog 12 #[.string s] w (DecT s.data.toList w) := by
  obtain ⟨L, hL, hL0, hx, hLs⟩ := rec_world w rcZ
  have hvL : IdxV L := hv.grown (g := w.heap.size) (by rw [← hL]; exact World.grownBy_alloc w _ _) (by obtain ⟨m, h⟩ := hv; have := Lib.lt_of_cell h; intro e; rw [e] at this; exact absurd this (Nat.lt_irrefl 0))
  have hrd := read_uni s L hs hvL
  have HT := Lib.hid ht
  clear ht hv hvL
  have HX := Lib.hid hx; have HL0 := Lib.hid hL0; have HLS := Lib.hid hLs
  obtain ⟨c0, c1, c2, c3, c4, c5, c6, c7, c8, c9, c10, c11⟩ := HX.out.cells
  have hfr := HX.out.fr
  simp only [rcZ] at c0 c1 c2 c3 c4 c5 c6 c7 c8 c9 c10 c11
  simp only [Rc.cells, rcZ] at hL
  clear hx hL0 hLs
  cases hp : parseW (spl 32 s.data.toList) with
  | none =>
    have HR := Lib.hid (po_none hp hrd)
    have HD := Lib.hid (dec_none hp)
    clear hrd hp
    go_enter Tryd.func12, Tryd.ntmps12
    go_wp2_with (first | (go_at_call 24; (with_reducible refine HR.out.mono ?_); rintro e w1 ⟨⟨s0, s1, s2, sa, sb, s5, s6, s7, s8, b9, s10, b11⟩, rfl, hb1⟩; simp only [Rc.cells]; have HX1 := Lib.hid ((HX.out.below hb1 (by have := HLS.out; omega)).below (below_lit w1 (.cells #[.int .i64 s0, .int .i64 s1, .int .i64 s2, .string sa, .string sb, .int .i64 s5, .int .i64 s6, .int .i64 s7, .int .i64 s8, .bool b9, .int .i64 s10, .bool b11] 23)) (Nat.lt_of_lt_of_le (by have := HLS.out; omega) hb1.size)); have HB1 := Lib.hid ((HL0.out.trans (hb1.mono HL0.out.size)).alloc (Nat.le_trans HL0.out.size hb1.size) (.cells #[.int .i64 s0, .int .i64 s1, .int .i64 s2, .string sa, .string sb, .int .i64 s5, .int .i64 s6, .int .i64 s7, .int .i64 s8, .bool b9, .int .i64 s10, .bool b11] 23)); have HR1 := Lib.hid (show RcB (w1.alloc (.cells #[.int .i64 s0, .int .i64 s1, .int .i64 s2, .string sa, .string sb, .int .i64 s5, .int .i64 s6, .int .i64 s7, .int .i64 s8, .bool b9, .int .i64 s10, .bool b11] 23)) w1.heap.size ⟨s0, s1, s2, sa, sb, s5, s6, s7, s8, b9, s10, b11⟩ from new_at _ _); clear hb1; clear c0 c1 c2 c3 c4 c5 c6 c7 c8 c9 c10 c11 hfr; obtain ⟨c0, c1, c2, c3, c4, c5, c6, c7, c8, c9, c10, c11⟩ := HX1.out.cells; have hfr := HX1.out.fr; simp only [rcZ] at c0 c1 c2 c3 c4 c5 c6 c7 c8 c9 c10 c11; obtain ⟨k0, k1, k2, k3, k4, k5, k6, k7, k8, k9, k10, k11⟩ := HR1.out.cells))
    refine bodyPost_ret (v := .tuple #[.agg (Rc.cells rcZ), .int .i64 1]) ?_ rfl (decT_of HD.out rfl ?_)
    · exact results_cell2 (p := 2) (u := 3) rfl _ _ w.heap.size 23 (Rc.cells rcZ) (0, 0) _ rfl (put12 0 0 0 ⟨#[]⟩ ⟨#[]⟩ 0 0 0 0 false 0 false HX1.out) Tryd.underlying23 rfl rfl
    · exact below12' HB1.out (Nat.le_refl _) _ _ _ _ _ _ _ _ _ _ _ _
  | some n =>
    obtain ⟨r, hr⟩ : ∃ r, rcN n = r := ⟨_, rfl⟩
    have hsm := po_some hp hrd
    have hdb := dec_bad hp; have hdo := dec_other hp; have hdy := dec_yes hp
    rw [hr] at hsm hdb hdo hdy
    clear hrd hp hr
    obtain ⟨x, hxe⟩ : ∃ x, chkR r = x := ⟨_, rfl⟩
    by_cases hc : chkR r = 0
    · obtain ⟨ln, hln⟩ : ∃ ln : ByteArray, S (lineR r) = ln := ⟨_, rfl⟩
      have hck := check_any r (by have := (chk_ok hc).s.la; unfold maxLen; omega) (by have := (chk_ok hc).s.lb; unfold maxLen; omega)
      rw [hc] at hck
      have hw := fun W (hW : Tab W) => write_any (lr_of hc) (ln_ok hc) W hW
      rw [show joinW 32 (wordsL (lnR r)) = lineR r from rfl] at hw
      rw [hln] at hw
      by_cases hl : lineR r = s.data.toList
      · have e : ln = s := by rw [← hln, hl, S_of]
        rw [e] at hw
        have hd := hdy hc hl
        obtain ⟨s0, s1, s2, sa, sb, s5, s6, s7, s8, b9, s10, b11⟩ := r
        simp only [Rc.cells] at hsm hw hck
        have HD := Lib.hid hd; have HR := Lib.hid hsm; have HW := Lib.hid hw; have HCK := Lib.hid hck
        clear hd hsm hw hck hl e hln hxe hdb hdo hdy hc
        go_enter Tryd.func12, Tryd.ntmps12
        go_wp2_with (first | (go_at_call 24; (with_reducible refine HR.out.mono ?_); rintro e w1 ⟨rfl, za, zb, hb1⟩; have HX1 := Lib.hid ((HX.out.below hb1 (by have := HLS.out; omega)).below (below_lit w1 (.cells #[.int .i64 s0, .int .i64 s1, .int .i64 s2, .string sa, .string sb, .int .i64 s5, .int .i64 s6, .int .i64 s7, .int .i64 s8, .bool b9, .int .i64 s10, .bool b11] 23)) (Nat.lt_of_lt_of_le (by have := HLS.out; omega) hb1.size)); have HB1 := Lib.hid ((HL0.out.trans (hb1.mono HL0.out.size)).alloc (Nat.le_trans HL0.out.size hb1.size) (.cells #[.int .i64 s0, .int .i64 s1, .int .i64 s2, .string sa, .string sb, .int .i64 s5, .int .i64 s6, .int .i64 s7, .int .i64 s8, .bool b9, .int .i64 s10, .bool b11] 23)); have HR1 := Lib.hid (show RcB (w1.alloc (.cells #[.int .i64 s0, .int .i64 s1, .int .i64 s2, .string sa, .string sb, .int .i64 s5, .int .i64 s6, .int .i64 s7, .int .i64 s8, .bool b9, .int .i64 s10, .bool b11] 23)) w1.heap.size ⟨s0, s1, s2, sa, sb, s5, s6, s7, s8, b9, s10, b11⟩ from new_at _ _); clear hb1; clear c0 c1 c2 c3 c4 c5 c6 c7 c8 c9 c10 c11 hfr; obtain ⟨c0, c1, c2, c3, c4, c5, c6, c7, c8, c9, c10, c11⟩ := HX1.out.cells; have hfr := HX1.out.fr; simp only [rcZ] at c0 c1 c2 c3 c4 c5 c6 c7 c8 c9 c10 c11; obtain ⟨k0, k1, k2, k3, k4, k5, k6, k7, k8, k9, k10, k11⟩ := HR1.out.cells) | (go_at_call 20; (with_reducible refine (HCK.out _).mono ?_); rintro e w2 ⟨rfl, hb2⟩; have HX2 := Lib.hid (HX1.out.below hb2 (RcB.lt HX1.out)); have HR2 := Lib.hid (HR1.out.below hb2 (RcB.lt HR1.out)); have HB2 := Lib.hid (HB1.out.trans (hb2.mono HB1.out.size)); clear hb2; clear c0 c1 c2 c3 c4 c5 c6 c7 c8 c9 c10 c11 k0 k1 k2 k3 k4 k5 k6 k7 k8 k9 k10 k11 hfr; obtain ⟨c0, c1, c2, c3, c4, c5, c6, c7, c8, c9, c10, c11⟩ := HX2.out.cells; have hfr := HX2.out.fr; simp only [rcZ] at c0 c1 c2 c3 c4 c5 c6 c7 c8 c9 c10 c11; obtain ⟨k0, k1, k2, k3, k4, k5, k6, k7, k8, k9, k10, k11⟩ := HR2.out.cells) | (go_at_call 21; (with_reducible refine (HW.out _ (HT.out.below HB2.out)).mono ?_); rintro e w3 ⟨rfl, hb3⟩; have HX3 := Lib.hid (HX2.out.below hb3 (RcB.lt HX2.out)); have HR3 := Lib.hid (HR2.out.below hb3 (RcB.lt HR2.out)); have HB3 := Lib.hid (HB2.out.trans (hb3.mono HB2.out.size)); clear hb3; clear c0 c1 c2 c3 c4 c5 c6 c7 c8 c9 c10 c11 k0 k1 k2 k3 k4 k5 k6 k7 k8 k9 k10 k11 hfr; obtain ⟨c0, c1, c2, c3, c4, c5, c6, c7, c8, c9, c10, c11⟩ := HX3.out.cells; have hfr := HX3.out.fr; simp only [rcZ] at c0 c1 c2 c3 c4 c5 c6 c7 c8 c9 c10 c11; obtain ⟨k0, k1, k2, k3, k4, k5, k6, k7, k8, k9, k10, k11⟩ := HR3.out.cells))
        refine bodyPost_ret (v := .tuple #[.agg (Rc.cells (⟨s0, s1, s2, sa, sb, s5, s6, s7, s8, b9, s10, b11⟩ : Rc)), .int .i64 0]) ?_ rfl (decT_of HD.out rfl ?_)
        · exact results_cell2 (p := 2) (u := 3) rfl _ _ w.heap.size 23 (Rc.cells (⟨s0, s1, s2, sa, sb, s5, s6, s7, s8, b9, s10, b11⟩ : Rc)) (0, 0) _ rfl (put12 s0 s1 s2 sa sb s5 s6 s7 s8 b9 s10 b11 HX3.out) Tryd.underlying23 rfl rfl
        · exact below12' HB3.out (Nat.le_refl _) _ _ _ _ _ _ _ _ _ _ _ _
      · have e : ln.data.toList ≠ s.data.toList := by rw [← hln, S_data]; exact hl
        have e1 := str_ne1 e; have e2 := str_ne2 e; have e3 := str_ne3 e
        have hd := hdo hc hl
        obtain ⟨s0, s1, s2, sa, sb, s5, s6, s7, s8, b9, s10, b11⟩ := r
        simp only [Rc.cells] at hsm hw hck
        have HD := Lib.hid hd; have HR := Lib.hid hsm; have HW := Lib.hid hw; have HCK := Lib.hid hck
        clear hd hsm hw hck hl e hln hxe hdb hdo hdy hc
        go_enter Tryd.func12, Tryd.ntmps12
        go_wp2_with (first | (go_at_call 24; (with_reducible refine HR.out.mono ?_); rintro e w1 ⟨rfl, za, zb, hb1⟩; have HX1 := Lib.hid ((HX.out.below hb1 (by have := HLS.out; omega)).below (below_lit w1 (.cells #[.int .i64 s0, .int .i64 s1, .int .i64 s2, .string sa, .string sb, .int .i64 s5, .int .i64 s6, .int .i64 s7, .int .i64 s8, .bool b9, .int .i64 s10, .bool b11] 23)) (Nat.lt_of_lt_of_le (by have := HLS.out; omega) hb1.size)); have HB1 := Lib.hid ((HL0.out.trans (hb1.mono HL0.out.size)).alloc (Nat.le_trans HL0.out.size hb1.size) (.cells #[.int .i64 s0, .int .i64 s1, .int .i64 s2, .string sa, .string sb, .int .i64 s5, .int .i64 s6, .int .i64 s7, .int .i64 s8, .bool b9, .int .i64 s10, .bool b11] 23)); have HR1 := Lib.hid (show RcB (w1.alloc (.cells #[.int .i64 s0, .int .i64 s1, .int .i64 s2, .string sa, .string sb, .int .i64 s5, .int .i64 s6, .int .i64 s7, .int .i64 s8, .bool b9, .int .i64 s10, .bool b11] 23)) w1.heap.size ⟨s0, s1, s2, sa, sb, s5, s6, s7, s8, b9, s10, b11⟩ from new_at _ _); clear hb1; clear c0 c1 c2 c3 c4 c5 c6 c7 c8 c9 c10 c11 hfr; obtain ⟨c0, c1, c2, c3, c4, c5, c6, c7, c8, c9, c10, c11⟩ := HX1.out.cells; have hfr := HX1.out.fr; simp only [rcZ] at c0 c1 c2 c3 c4 c5 c6 c7 c8 c9 c10 c11; obtain ⟨k0, k1, k2, k3, k4, k5, k6, k7, k8, k9, k10, k11⟩ := HR1.out.cells) | (go_at_call 20; (with_reducible refine (HCK.out _).mono ?_); rintro e w2 ⟨rfl, hb2⟩; have HX2 := Lib.hid (HX1.out.below hb2 (RcB.lt HX1.out)); have HR2 := Lib.hid (HR1.out.below hb2 (RcB.lt HR1.out)); have HB2 := Lib.hid (HB1.out.trans (hb2.mono HB1.out.size)); clear hb2; clear c0 c1 c2 c3 c4 c5 c6 c7 c8 c9 c10 c11 k0 k1 k2 k3 k4 k5 k6 k7 k8 k9 k10 k11 hfr; obtain ⟨c0, c1, c2, c3, c4, c5, c6, c7, c8, c9, c10, c11⟩ := HX2.out.cells; have hfr := HX2.out.fr; simp only [rcZ] at c0 c1 c2 c3 c4 c5 c6 c7 c8 c9 c10 c11; obtain ⟨k0, k1, k2, k3, k4, k5, k6, k7, k8, k9, k10, k11⟩ := HR2.out.cells) | (go_at_call 21; (with_reducible refine (HW.out _ (HT.out.below HB2.out)).mono ?_); rintro e w3 ⟨rfl, hb3⟩; have HX3 := Lib.hid (HX2.out.below hb3 (RcB.lt HX2.out)); have HR3 := Lib.hid (HR2.out.below hb3 (RcB.lt HR2.out)); have HB3 := Lib.hid (HB2.out.trans (hb3.mono HB2.out.size)); clear hb3; clear c0 c1 c2 c3 c4 c5 c6 c7 c8 c9 c10 c11 k0 k1 k2 k3 k4 k5 k6 k7 k8 k9 k10 k11 hfr; obtain ⟨c0, c1, c2, c3, c4, c5, c6, c7, c8, c9, c10, c11⟩ := HX3.out.cells; have hfr := HX3.out.fr; simp only [rcZ] at c0 c1 c2 c3 c4 c5 c6 c7 c8 c9 c10 c11; obtain ⟨k0, k1, k2, k3, k4, k5, k6, k7, k8, k9, k10, k11⟩ := HR3.out.cells))
        refine bodyPost_ret (v := .tuple #[.agg (Rc.cells rcZ), .int .i64 1]) ?_ rfl (decT_of HD.out rfl ?_)
        · exact results_cell2 (p := 2) (u := 3) rfl _ _ w.heap.size 23 (Rc.cells rcZ) (0, 0) _ rfl (put12 0 0 0 ⟨#[]⟩ ⟨#[]⟩ 0 0 0 0 false 0 false HX3.out) Tryd.underlying23 rfl rfl
        · exact below12' HB3.out (Nat.le_refl _) _ _ _ _ _ _ _ _ _ _ _ _
    · have hd := hdb hc
      have hw := fun (za : r.sa.size ≤ maxLen) (zb : r.sb.size ≤ maxLen) => check_any r za zb
      rw [hxe] at hd hc hw
      have hx0 : (x != 0) = true := by simp [hc]
      obtain ⟨s0, s1, s2, sa, sb, s5, s6, s7, s8, b9, s10, b11⟩ := r
      simp only [Rc.cells] at hsm hw
      have HD := Lib.hid hd; have HR := Lib.hid hsm; have HW := Lib.hid hw
      clear hd hsm hw hxe hdb hdo hdy hc
      go_enter Tryd.func12, Tryd.ntmps12
      go_wp2_with (first | (go_at_call 24; (with_reducible refine HR.out.mono ?_); rintro e w1 ⟨rfl, za, zb, hb1⟩; have HX1 := Lib.hid ((HX.out.below hb1 (by have := HLS.out; omega)).below (below_lit w1 (.cells #[.int .i64 s0, .int .i64 s1, .int .i64 s2, .string sa, .string sb, .int .i64 s5, .int .i64 s6, .int .i64 s7, .int .i64 s8, .bool b9, .int .i64 s10, .bool b11] 23)) (Nat.lt_of_lt_of_le (by have := HLS.out; omega) hb1.size)); have HB1 := Lib.hid ((HL0.out.trans (hb1.mono HL0.out.size)).alloc (Nat.le_trans HL0.out.size hb1.size) (.cells #[.int .i64 s0, .int .i64 s1, .int .i64 s2, .string sa, .string sb, .int .i64 s5, .int .i64 s6, .int .i64 s7, .int .i64 s8, .bool b9, .int .i64 s10, .bool b11] 23)); have HR1 := Lib.hid (show RcB (w1.alloc (.cells #[.int .i64 s0, .int .i64 s1, .int .i64 s2, .string sa, .string sb, .int .i64 s5, .int .i64 s6, .int .i64 s7, .int .i64 s8, .bool b9, .int .i64 s10, .bool b11] 23)) w1.heap.size ⟨s0, s1, s2, sa, sb, s5, s6, s7, s8, b9, s10, b11⟩ from new_at _ _); clear hb1; clear c0 c1 c2 c3 c4 c5 c6 c7 c8 c9 c10 c11 hfr; obtain ⟨c0, c1, c2, c3, c4, c5, c6, c7, c8, c9, c10, c11⟩ := HX1.out.cells; have hfr := HX1.out.fr; simp only [rcZ] at c0 c1 c2 c3 c4 c5 c6 c7 c8 c9 c10 c11; obtain ⟨k0, k1, k2, k3, k4, k5, k6, k7, k8, k9, k10, k11⟩ := HR1.out.cells) | (go_at_call 20; (with_reducible refine (HW.out za zb _).mono ?_); rintro e w2 ⟨rfl, hb2⟩; have HX2 := Lib.hid (HX1.out.below hb2 (RcB.lt HX1.out)); have HR2 := Lib.hid (HR1.out.below hb2 (RcB.lt HR1.out)); have HB2 := Lib.hid (HB1.out.trans (hb2.mono HB1.out.size)); clear hb2; clear c0 c1 c2 c3 c4 c5 c6 c7 c8 c9 c10 c11 k0 k1 k2 k3 k4 k5 k6 k7 k8 k9 k10 k11 hfr; obtain ⟨c0, c1, c2, c3, c4, c5, c6, c7, c8, c9, c10, c11⟩ := HX2.out.cells; have hfr := HX2.out.fr; simp only [rcZ] at c0 c1 c2 c3 c4 c5 c6 c7 c8 c9 c10 c11; obtain ⟨k0, k1, k2, k3, k4, k5, k6, k7, k8, k9, k10, k11⟩ := HR2.out.cells))
      refine bodyPost_ret (v := .tuple #[.agg (Rc.cells rcZ), .int .i64 x]) ?_ rfl (decT_of HD.out rfl ?_)
      · exact results_cell2 (p := 2) (u := 3) rfl _ _ w.heap.size 23 (Rc.cells rcZ) (0, 0) _ rfl (put12 0 0 0 ⟨#[]⟩ ⟨#[]⟩ 0 0 0 0 false 0 false HX2.out) Tryd.underlying23 rfl rfl
      · exact below12' HB2.out (Nat.le_refl _) _ _ _ _ _ _ _ _ _ _ _ _
end Go.Proofs.YtokdfdinnaghmaaDoor.Tx
