/- Walk of the law CodecOnly. -/
import Derived.Test.YtgflaclmdcegfaaRows
import Derived.Test.YtgflaclmdcegfaaCdL1
import Derived.Test.YtgflaclmdcegfaaCdS3
import Derived.Test.YtgflaclmdcegfaaCdOnR
namespace Go.Proofs.Ytgflaclmdcegfaa
open Go.RowKit

/-- An operation whose guard says yes goes as one without. -/
theorem wpList_guard {P : Program} {ops : Array Oper} {Q : Exit → Act → World → Prop} {a : Act} {w : World} {rest : List Oper} {o : Oper} (hw : Region.wanted o (yielded ops a.tmps) = true)
    (h : wpList P ops Q ({ o with guard := none } :: rest) a w) : wpList P ops Q (o :: rest) a w := by
  unfold wpList at h ⊢
  rw [if_pos hw]
  rw [if_pos (show Region.wanted { o with guard := none } (yielded ops a.tmps) = true from rfl)] at h
  cases o
  exact h
theorem bstep {B : Nat} {a b c : World} (h : Below B a b) (hB : B ≤ b.heap.size) (k : Below b.heap.size b c) : Below B a c := h.trans (k.mono hB)
theorem Own.kept {w w' : World} {base : Nat} {v : Value} {L : List Int} (h : Own w base v L) (hb : Below w.heap.size w w') : Own w' base v L :=
  ⟨h.1.kept (row := none) ⟨hb.os, hb.tape, hb.output, hb.size, fun k hk _ => hb.block k hk⟩ (by cases hv : v.ownBlock with
    | none => exact .inl rfl
    | some x => exact .inr (by simp)), h.2⟩
/-- The world in which the four answers lie, and what came. -/
structure Four (W W5 w : World) : Prop where
  one : Below W.heap.size W W5
  two : Below W5.heap.size W5 w
theorem Four.all {W W5 w : World} (h : Four W W5 w) : Below W.heap.size W w := h.one.trans (h.two.mono h.one.size)
theorem Four.step {W W5 w w' : World} (h : Four W W5 w) (k : Below w.heap.size w w') : Four W W5 w' := ⟨h.one, h.two.trans (k.mono h.two.size)⟩
theorem glue {w : World} {base : Nat} {v : Value} {a r b : List Int} {m : Nat} (h : w.ownsRow base 5 1 v (a.length + m) (C8 a ++ C8 r)) (hm : m = r.length) (hb : b = a ++ r) (hr : BR b) : Own w base v b := by
  subst hm; subst hb
  exact ⟨by rw [List.length_append, C8_app]; exact h, hr⟩

theorem many_c : ∀ (k : Nat) (b : List Int), (many k b).1.length ≤ k
  | 0, b => by simp [many]
  | k + 1, b => by
    have h1 := many_c k (numR (b, 0)).2.1
    simp only [many]
    split
    · split
      · simp only [List.length_cons]; omega
      · simp
    · simp
theorem many_bound (s : St) : (numsR s).1.length ≤ 1048576 := by
  unfold numsR
  split
  · rename_i h
    obtain ⟨h1, h2, _⟩ := lenR_ok h
    have := many_c (lenR s).1.toNat (lenR s).2.1
    omega
  · simp
theorem szb {a r b : List Int} {m : Nat} (hb : b = a ++ r) (hm : m = r.length) (hl : b.length ≤ 300) : a.length + m ≤ maxLen ∧ (a.length + m) * 1 ≤ 140737488355328 := by
  subst hm
  rw [hb, List.length_append] at hl
  unfold maxLen; omega
theorem putNum_nil {w : World} (z : Int) (hz : -9223372036854775808 ≤ z ∧ z ≤ 9223372036854775807) : Calls Try.prog 10 #[.slice none 0 0, .int .i64 z] w (Gives w w.heap.size (numE z)) := by
  have := putNum_any z (byt_nil w) (by decide) hz
  rwa [List.nil_append] at this
theorem putTxt_nil {w : World} (s : ByteArray) (hs : s.size ≤ 300) : Calls Try.prog 20 #[.slice none 0 0, .string s] w (Gives w w.heap.size (txtE s)) := by
  have := putTxt_any s (Nat.le_trans hs (by decide)) (byt_nil w) (by decide)
  rwa [List.nil_append] at this
theorem putNums_nil {w : World} {B : Option Addr} {m d : Nat} {zs : List Int} (h : Has w B m d (zs.map (Value.int .i64))) (hm : m ≤ 1048576) (hz : ∀ z ∈ zs, -9223372036854775808 ≤ z ∧ z ≤ 9223372036854775807) : Calls Try.prog 26 #[.slice none 0 0, .slice B m d] w (Gives w w.heap.size (numE zs.length ++ listE zs)) := by
  have := putNums_any (byt_nil w) ⟨h, hz⟩ (by decide) (Nat.le_trans hm (by decide))
  rwa [List.nil_append] at this
theorem putRec_nil {w : World} {r : Rc} (hr : r.In 1000) : Calls Try.prog 24 #[.slice none 0 0, .agg r.cells] w (Gives w w.heap.size r.enc) := by
  have := putRec_any (byt_nil w) (by decide) hr
  rwa [List.nil_append] at this
theorem ints_of {w : World} {base : Nat} {v : Value} {zs : List Int} {N : Nat} (h : OwnI w base v zs) (hN : zs.length = N) : ∃ A c, v = .slice A N c ∧ Has w A N c (zs.map (Value.int .i64)) := by
  subst hN
  obtain ⟨A, c, rfl, _, _⟩ := own_form h
  exact ⟨A, c, rfl, (has_own h (fun u hu => by simp at hu; obtain ⟨z, _, rfl⟩ := hu; rfl)).2⟩
set_option maxRecDepth 100000 in
set_option maxHeartbeats 16000000 in
theorem walkCodecOnly (A : Option Addr) (n c : Nat) (zs : List Int) (W : World) (h0 : IsRow .u8 W A n c zs) :
    Calls Try.prog 8 #[.slice A n c] W fun e w' => e = .returned (.bool true) ∧ Below W.heap.size W w' := by
  obtain ⟨i0, hi0, hz0, hz1, hz2⟩ := info_parts byteInfo
  have hA := byt_of_row h0
  clear h0
  have HALV := Lib.hid alive_any
  by_cases hn : (300 : Int) < (n : Int)
  · clear hA
    go_enter Try.func8, Try.ntmps8
    go_wp2_with (go_at_call 12; refine (HALV.out _).mono ?_; rintro e w1 ⟨rfl, hb1⟩)
    go_ret
    exact ⟨rfl, hb1⟩
  · have hlb := hA.len
    obtain ⟨b, hb⟩ : ∃ b, zs.take n = b := ⟨_, rfl⟩
    rw [hb] at hA hlb
    have hbr : BR b := hA.ran
    have hN := codNumber_any hA (by omega)
    have hT := fun (w1 : World) (hb : Below W.heap.size W w1) => codText_any (hA.below hb) (by omega)
    have hL := fun (w1 : World) (hb : Below W.heap.size W w1) => codNumbers_any (hA.below hb) (by omega)
    have hR := fun (w1 : World) (hb : Below W.heap.size W w1) => codRecord_any (hA.below hb) (by omega)
    unfold RecP at hR
    have o1 := fun (V : Int) (R : List Int) => numR_o (s := (b, 0)) (n := V) (r := R) hbr
    have o2 := fun (V : ByteArray) (R : List Int) => txtR_o (s := (b, 0)) (t := V) (r := R) hbr
    have o3 := fun (V R : List Int) => numsR_o (zs := V) (r := R) hbr
    have o4 := fun (V : Rc) (R : List Int) => recR_o (c := V) (r := R) hbr (by omega)
    have l1 := numR_len2 (b, 0)
    have l2 := txtR_len (b, 0)
    have l3 := numsR_len (b, 0)
    have l4 := recR_len (b, 0)
    obtain ⟨⟨V1, R1, e1⟩, q1⟩ : ∃ S, numR (b, 0) = S := ⟨_, rfl⟩
    obtain ⟨⟨V2, R2, e2⟩, q2⟩ : ∃ S, txtR (b, 0) = S := ⟨_, rfl⟩
    obtain ⟨⟨V3, R3, e3⟩, q3⟩ : ∃ S, numsR (b, 0) = S := ⟨_, rfl⟩
    obtain ⟨⟨V4, R4, e4⟩, q4⟩ : ∃ S, recR (b, 0) = S := ⟨_, rfl⟩
    rw [q1] at hN l1 o1
    rw [q2] at hT l2 o2
    have hz3 : (numsR (b, 0)).1.length ≤ 1048576 := many_bound _
    rw [q3] at hL l3 o3 hz3
    rw [q4] at hR l4 o4
    simp only at l1 l2 l3 l4 hz3
    have p1 : e1 = 0 → b = numE V1 ++ R1 ∧ (-9223372036854775808 ≤ V1 ∧ V1 ≤ 9223372036854775807) := fun h => by
      have := o1 V1 R1 (by rw [h]); exact ⟨this.1, this.2.2.2⟩
    have p2 : e2 = 0 → b = txtE V2 ++ R2 ∧ V2.size ≤ 300 := fun h => by
      have := o2 V2 R2 (by rw [h]); exact ⟨this.1, by have := this.2.2.2; simp only at this; omega⟩
    have p3 : e3 = 0 → b = (numE V3.length ++ listE V3) ++ R3 ∧ ∀ z ∈ V3, -9223372036854775808 ≤ z ∧ z ≤ 9223372036854775807 := fun h => o3 V3 R3 (by rw [h])
    have p4 : e4 = 0 → b = V4.enc ++ R4 ∧ V4.In 1000 := fun h => o4 V4 R4 (by rw [h])
    simp only [Rc.cells] at hR
    have HN := Lib.hid hN; have HT := Lib.hid hT; have HL := Lib.hid hL; have HR := Lib.hid hR
    have P1 := Lib.hid p1; have P2 := Lib.hid p2; have P3 := Lib.hid p3; have P4 := Lib.hid p4
    have HA := Lib.hid hA; have HLB : Hid (b.length ≤ 300) := Lib.hid (by omega)
    obtain ⟨N3, hN3⟩ : ∃ N3, V3.length = N3 := ⟨_, rfl⟩
    have HN3 := Lib.hid hN3; have HLZ : Hid (N3 ≤ 1048576) := Lib.hid (by rw [← hN3]; exact hz3)
    clear hN3 hz3
    have L1 : Hid (R1.length ≤ 300) := Lib.hid (by omega)
    have L2 : Hid (R2.length ≤ 300) := Lib.hid (by omega)
    have L3 : Hid (R3.length ≤ 300) := Lib.hid (by omega)
    have L4 : Hid (R4.length ≤ 300) := Lib.hid (by omega)
    clear hN hT hL hR p1 p2 p3 p4 o1 o2 o3 o4 l1 l2 l3 l4 q1 q2 q3 q4 hA hbr hb hlb
    go_enter Try.func8, Try.ntmps8
    go_wp2_with (first
      | (go_at_call 13; refine HN.out.mono ?_; rintro e w1 ⟨v1, rfl, ho1, hb1⟩; have HB1 := Lib.hid hb1; have HO1 := Lib.hid ho1; clear ho1 hb1)
      | (go_at_call 18; refine (HT.out _ HB1.out).mono ?_; rintro e w2 ⟨v2, rfl, ho2, hb2⟩; have HO1 := Lib.hid (HO1.out.kept hb2); have HB2 := Lib.hid (HB1.out.trans (hb2.mono HB1.out.size)); have HO2 := Lib.hid ho2; clear ho2 hb2)
      | (go_at_call 15; refine (HL.out _ HB2.out).mono ?_; rintro e w3 ⟨u3, v3, rfl, hi3, ho3, hb3⟩; have HO1 := Lib.hid (HO1.out.kept hb3); have HO2 := Lib.hid (HO2.out.kept hb3); have HI3 := Lib.hid hi3; have HB3 := Lib.hid (HB2.out.trans (hb3.mono HB2.out.size)); have HO3 := Lib.hid ho3; clear ho3 hb3 hi3)
      | (go_at_call 22; refine (HR.out _ HB3.out).mono ?_; rintro e w4 ⟨v4, r, rfl, hr4, -, ho4, hb4⟩; have HR4 := Lib.hid hr4; have HO1 := Lib.hid (HO1.out.kept hb4); have HO2 := Lib.hid (HO2.out.kept hb4); have HO3 := Lib.hid (HO3.out.kept hb4); have HI3 := Lib.hid (HI3.out.below hb4); have HB4 := Lib.hid (HB3.out.trans (hb4.mono HB3.out.size)); have HO4 := Lib.hid ho4; obtain ⟨W5, hW5⟩ : ∃ W5, w4.alloc (.cells #[.int .i64 r.s0, .int .i64 r.s1, .int .i64 r.s2, .string r.sa, .string r.sb, .int .i64 r.s5, .int .i64 r.s6, .int .i64 r.s7, .int .i64 r.s8, .bool r.b9, .int .i64 r.s10, .bool r.b11] 40) = W5 := ⟨_, rfl⟩; have b5 : Below w4.heap.size w4 W5 := hW5 ▸ below_lit _ _; have HX5 : Hid (RcB W5 w4.heap.size r) := Lib.hid (by unfold RcB; rw [← hW5]; exact heap_alloc_new _ _); have HG5 : Hid (w4.heap.size < W5.heap.size) := Lib.hid (by rw [← hW5]; simp); have hF : Four W W5 W5 := ⟨HB4.out.trans (b5.mono HB4.out.size), Below.refl _ _⟩; obtain ⟨A1, m1, c1, rfl, hm1, y1⟩ := (HO1.out.kept b5).bytm; obtain ⟨A2, m2, c2, rfl, hm2, y2⟩ := (HO2.out.kept b5).bytm; obtain ⟨A3, m3, c3, rfl, hm3, y3⟩ := (HO3.out.kept b5).bytm; obtain ⟨A4, m4, c4, rfl, hm4, y4⟩ := (HO4.out.kept b5).bytm; have Y1 := Lib.hid y1; have Y2 := Lib.hid y2; have Y3 := Lib.hid y3; have Y4 := Lib.hid y4; obtain ⟨A5, c5, rfl, i5⟩ := ints_of (HI3.out.below b5) HN3.out; have I5 := Lib.hid i5; clear i5; have P4 : Hid (e4 = 0 → b = r.enc ++ R4 ∧ r.In 1000) := Lib.hid (fun h => by rw [HR4.out h]; exact P4.out h); obtain ⟨k0, k1, k2, k3, k4, k5, k6, k7, k8, k9, k10, k11⟩ := (HX5.out.below hF.two HG5.out).cells; clear y1 y2 y3 y4 ho4 hb4 hr4 b5)
      | (go_at_call 10; have HFP := Lib.hid (show Four W W5 _ by assumption); refine (putNum_nil V1 (P1.out (by first | trivial | rfl | assumption)).2).mono ?_; rintro e wa ⟨va, rfl, hoa, hba⟩; have HOA := Lib.hid hoa; have HBA := Lib.hid hba; have HFA := Lib.hid (HFP.out.step hba); clear hoa hba)
      | (at_builtin; refine wpList_guard rfl ?_; refine wpList_append_has rfl (.tmp 47) (.tmp 48) 22 rfl _ 5 i0 (.int .u8 0) 1 Try.underlying22 hi0 hz0 hz1 hz2 rfl _ _ _ rfl HOA.out.1 _ _ _ _ rfl (Y1.out.below HFA.out.two).has (szb (P1.out (by first | trivial | rfl | assumption)).1 hm1.out HLB.out).1 (szb (P1.out (by first | trivial | rfl | assumption)).1 hm1.out HLB.out).2 HBA.out.size ?_; intro vb wb hownb hgb; have hbb := HBA.out.grown hgb HBA.out.size (fun g hg' => (World.ownsRow.lt HOA.out.1 g hg').1); have hF := HFP.out.step hbb; obtain ⟨A9, m9, c9, rfl, hm9, y9⟩ := (glue hownb hm1.out (P1.out (by first | trivial | rfl | assumption)).1 HA.out.ran).bytm; have x9 := HA.out.below hF.all; obtain ⟨k0, k1, k2, k3, k4, k5, k6, k7, k8, k9, k10, k11⟩ := (HX5.out.below hF.two HG5.out).cells; clear hownb hgb hbb)
      | (go_at_call 20; have HFP := Lib.hid (show Four W W5 _ by assumption); refine (putTxt_nil V2 (P2.out (by first | trivial | rfl | assumption)).2).mono ?_; rintro e wa ⟨va, rfl, hoa, hba⟩; have HOA := Lib.hid hoa; have HBA := Lib.hid hba; have HFA := Lib.hid (HFP.out.step hba); clear hoa hba)
      | (at_builtin; refine wpList_guard rfl ?_; refine wpList_append_has rfl (.tmp 58) (.tmp 59) 22 rfl _ 5 i0 (.int .u8 0) 1 Try.underlying22 hi0 hz0 hz1 hz2 rfl _ _ _ rfl HOA.out.1 _ _ _ _ rfl (Y2.out.below HFA.out.two).has (szb (P2.out (by first | trivial | rfl | assumption)).1 hm2.out HLB.out).1 (szb (P2.out (by first | trivial | rfl | assumption)).1 hm2.out HLB.out).2 HBA.out.size ?_; intro vb wb hownb hgb; have hbb := HBA.out.grown hgb HBA.out.size (fun g hg' => (World.ownsRow.lt HOA.out.1 g hg').1); have hF := HFP.out.step hbb; obtain ⟨A9, m9, c9, rfl, hm9, y9⟩ := (glue hownb hm2.out (P2.out (by first | trivial | rfl | assumption)).1 HA.out.ran).bytm; have x9 := HA.out.below hF.all; obtain ⟨k0, k1, k2, k3, k4, k5, k6, k7, k8, k9, k10, k11⟩ := (HX5.out.below hF.two HG5.out).cells; clear hownb hgb hbb)
      | (go_at_call 26; have HFP := Lib.hid (show Four W W5 _ by assumption); refine (putNums_nil (I5.out.below HFP.out.two) HLZ.out (P3.out (by first | trivial | rfl | assumption)).2).mono ?_; rintro e wa ⟨va, rfl, hoa, hba⟩; have HOA := Lib.hid hoa; have HBA := Lib.hid hba; have HFA := Lib.hid (HFP.out.step hba); clear hoa hba)
      | (at_builtin; refine wpList_guard rfl ?_; refine wpList_append_has rfl (.tmp 70) (.tmp 71) 22 rfl _ 5 i0 (.int .u8 0) 1 Try.underlying22 hi0 hz0 hz1 hz2 rfl _ _ _ rfl HOA.out.1 _ _ _ _ rfl (Y3.out.below HFA.out.two).has (szb (P3.out (by first | trivial | rfl | assumption)).1 hm3.out HLB.out).1 (szb (P3.out (by first | trivial | rfl | assumption)).1 hm3.out HLB.out).2 HBA.out.size ?_; intro vb wb hownb hgb; have hbb := HBA.out.grown hgb HBA.out.size (fun g hg' => (World.ownsRow.lt HOA.out.1 g hg').1); have hF := HFP.out.step hbb; obtain ⟨A9, m9, c9, rfl, hm9, y9⟩ := (glue hownb hm3.out (P3.out (by first | trivial | rfl | assumption)).1 HA.out.ran).bytm; have x9 := HA.out.below hF.all; obtain ⟨k0, k1, k2, k3, k4, k5, k6, k7, k8, k9, k10, k11⟩ := (HX5.out.below hF.two HG5.out).cells; clear hownb hgb hbb)
      | (go_at_call 24; have HFP := Lib.hid (show Four W W5 _ by assumption); refine (putRec_nil (P4.out (by first | trivial | rfl | assumption)).2).mono ?_; rintro e wa ⟨va, rfl, hoa, hba⟩; have HOA := Lib.hid hoa; have HBA := Lib.hid hba; have HFA := Lib.hid (HFP.out.step hba); clear hoa hba)
      | (at_builtin; refine wpList_guard rfl ?_; refine wpList_append_has rfl (.tmp 82) (.tmp 83) 22 rfl _ 5 i0 (.int .u8 0) 1 Try.underlying22 hi0 hz0 hz1 hz2 rfl _ _ _ rfl HOA.out.1 _ _ _ _ rfl (Y4.out.below HFA.out.two).has (szb (P4.out (by first | trivial | rfl | assumption)).1 hm4.out HLB.out).1 (szb (P4.out (by first | trivial | rfl | assumption)).1 hm4.out HLB.out).2 HBA.out.size ?_; intro vb wb hownb hgb; have hbb := HBA.out.grown hgb HBA.out.size (fun g hg' => (World.ownsRow.lt HOA.out.1 g hg').1); have hF := HFP.out.step hbb; obtain ⟨A9, m9, c9, rfl, hm9, y9⟩ := (glue hownb hm4.out (P4.out (by first | trivial | rfl | assumption)).1 HA.out.ran).bytm; have x9 := HA.out.below hF.all; obtain ⟨k0, k1, k2, k3, k4, k5, k6, k7, k8, k9, k10, k11⟩ := (HX5.out.below hF.two HG5.out).cells; clear hownb hgb hbb)
      | (go_at_call 9; refine (same_yes (by assumption) (by assumption) (by rfl)).mono ?_; rintro e w6 ⟨rfl, rfl⟩)
      | (go_at_call 12; refine (HALV.out _).mono ?_; rintro e w7 ⟨rfl, hb7⟩))
    all_goals
      go_ret
      exact ⟨rfl, (Four.step (by assumption) hb7).all⟩
end Go.Proofs.Ytgflaclmdcegfaa
