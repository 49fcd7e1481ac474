/- Walk: the bytes of a record. -/
import Derived.Test.YtinnmnhaeejfdaaTgFld
import Derived.Test.YtinnmnhaeejfdaaTgPut
import Derived.Test.YtinnmnhaeejfdaaTgChk
import Derived.Deep.RegionHeld3
import Derived.Deep.OwnRows
namespace Go.Proofs.Ytinnmnhaeejfdaa
open Go.RowKit

theorem fltE_mem : ∀ (ls : List (List Int)) (k : Nat), ∀ e ∈ fltE k ls, (k : Int) ≤ e.1 ∧ e.1 < (k : Int) + ls.length ∧ e.2 ∈ ls
  | [], _, e, h => by cases h
  | l :: t, k, e, h => by
    rw [fltE] at h
    split at h
    · have := fltE_mem t (k + 1) e h
      refine ⟨by omega, by simp only [List.length_cons]; omega, List.mem_cons_of_mem _ this.2.2⟩
    · rcases List.mem_cons.1 h with rfl | h
      · exact ⟨Int.le_refl _, by simp only [List.length_cons]; omega, List.mem_cons_self ..⟩
      · have := fltE_mem t (k + 1) e h
        refine ⟨by omega, by simp only [List.length_cons]; omega, List.mem_cons_of_mem _ this.2.2⟩
theorem putF_len : ∀ (ls : List (List Int)) (k : Nat) (N : Nat), (∀ l ∈ ls, l.length ≤ N) → (putE (fltE k ls)).length ≤ ls.length * (N + 2)
  | [], _, _, _ => by simp [fltE, putE]
  | l :: t, k, N, h => by
    have h1 := putF_len t (k + 1) N (fun x hx => h x (List.mem_cons_of_mem _ hx))
    have h2 := h l (List.mem_cons_self ..)
    rw [fltE]
    split
    · rw [List.length_cons, Nat.add_mul]; omega
    · simp only [putE, List.length_cons, List.length_append, Nat.add_mul]; omega
theorem pkE_len (s : ByteArray) : (pkE s).length ≤ (s.size + 1) / 2 := by unfold pkE; split <;> simp
theorem vals_len {r : Rc} (hr : r.Small) : ∀ l ∈ valsE r, l.length ≤ 8 := by
  have a0 := shE_len (n := r.s0.toNat) (by have := hr.n0; omega)
  have a1 := shE_len (n := r.s1.toNat) (by have := hr.n1; omega)
  have a2 := shE_len (n := r.s2.toNat) (by have := hr.n2; omega)
  have a5 := shE_len (n := r.s5.toNat) (by have := hr.n5; omega)
  have a6 := shE_len (n := r.s6.toNat) (by have := hr.n6; omega)
  have a7 := shE_len (n := r.s7.toNat) (by have := hr.n7; omega)
  have a8 := shE_len (n := r.s8.toNat) (by have := hr.n8; omega)
  have a10 := shE_len (n := r.s10.toNat) (by have := hr.n10; omega)
  have af := shE_len (n := flg r) (by have := flg_small r; omega)
  have pa := pkE_len r.sa
  have pb := pkE_len r.sb
  have la := hr.la
  have lb := hr.lb
  intro l hl
  simp only [valsE, List.mem_cons, List.not_mem_nil, or_false] at hl
  rcases hl with rfl | rfl | rfl | rfl | rfl | rfl | rfl | rfl | rfl | rfl | rfl | rfl <;> first | omega | (simp <;> omega)
theorem fld_ok {r : Rc} (hr : r.Small) : ∀ e ∈ fldE r, elOk e := by
  intro e he
  have h := fltE_mem (valsE r) 0 e he
  have h2 := vals_len hr _ h.2.2
  have h3 : (valsE r).length = 12 := rfl
  exact ⟨by have := h.1; omega, by have := h.2.1; rw [h3] at this; omega, by omega⟩
theorem fld_len {r : Rc} (hr : r.Small) : (putE (fldE r)).length ≤ 120 := by
  have := putF_len (valsE r) 0 8 (vals_len hr)
  exact this
/-- The bytes of a valid record. -/
def encB (r : Rc) : List Int := (((putE (fldE r)).length / 256 : Nat) : Int) :: (((putE (fldE r)).length % 256 : Nat) : Int) :: putE (fldE r)
theorem RcB.alloc {w : World} {g : Nat} {r : Rc} (h : RcB w g r) (o : Obj) : RcB (w.alloc o) g r := by
  unfold RcB at *
  rw [heap_alloc_old _ _ (heap_lt h)]; exact h
theorem drew_below {w w1 : World} (h : Below w.drew.heap.size w.drew w1) : Below w.heap.size w w1 := ⟨h.os, h.tape, h.output, h.size, h.block⟩
theorem RcB.drew {w : World} {g : Nat} {r : Rc} (h : RcB w g r) : RcB w.drew g r := h
theorem own_two (w : World) : Own (w.alloc (.cells #[.int .u8 0, .int .u8 0] 5)) w.heap.size (.slice (some ⟨w.heap.size, 0, none⟩) 2 2) [0, 0] :=
  ⟨own_of (Nat.le_refl _) (heap_alloc_new _ _) (by decide) rfl, by intro x hx; simp at hx; omega⟩
theorem els_elOk {r : Rc} (hr : r.Small) : (fldE r).length ≤ 12 := by
  have h : ∀ (ls : List (List Int)) (k : Nat), (fltE k ls).length ≤ ls.length := by
    intro ls
    induction ls with
    | nil => intro k; simp [fltE]
    | cons l t ih =>
      intro k
      rw [fltE]
      split
      · have := ih (k + 1); simp only [List.length_cons]; omega
      · have := ih (k + 1); simp only [List.length_cons]; omega
  exact h (valsE r) 0
/-- The call of put behind the elements of a record, in both orders. -/
theorem putA {r : Rc} (hr : r.Small) {w1 w2 : World} {A : Option Addr} {c : Nat} {X : World} (hX : X = (w1.alloc (.cells #[.int .u8 0, .int .u8 0] 5)).drew) (hb : Below X.heap.size X w2) (hE : Els w2 A (fldE r).length (fldE r) (some w1.heap.size)) :
    Calls Try.prog 25 #[.slice (some ⟨w1.heap.size, 0, none⟩) 2 2, .slice A (fldE r).length c] w2 fun e w' => ∃ v', e = .returned v' ∧ Own w' w1.heap.size v' ([0, 0] ++ putE (fldE r)) ∧ Below w1.heap.size w1 w' := by
  subst hX
  have hd : (w1.alloc (.cells #[.int .u8 0, .int .u8 0] 5)).drew.heap.size = w1.heap.size + 1 := World.size_alloc _ _
  have hs := hb.size
  rw [hd] at hs
  have ho := (show Own (w1.alloc (.cells #[.int .u8 0, .int .u8 0] 5)).drew w1.heap.size (.slice (some ⟨w1.heap.size, 0, none⟩) 2 2) [0, 0] from own_two w1).below hb
  refine (put_any (base := w1.heap.size) ho (by omega) hE (fld_ok hr) (by have := els_elOk hr; omega) (by have := fld_len hr; simp; omega)).mono fun e w' => ?_
  rintro ⟨v', rfl, hp⟩
  have h1 : Below w1.heap.size w1 w2 := (below_lit w1 _).trans ((drew_below hb).mono (by rw [World.size_alloc]; omega))
  exact ⟨v', rfl, hp.own, h1.grown hp.grown (by omega) (fun g hg => by obtain rfl : w1.heap.size = g := Option.some.inj hg; exact Nat.le_refl _)⟩
theorem putB {r : Rc} (hr : r.Small) {w1 w2 : World} {A : Option Addr} {c : Nat} {X : World} (hX : X = w1.drew) (hb : Below X.heap.size X w2) (hE : Els w2 A (fldE r).length (fldE r) (some w2.heap.size)) :
    Calls Try.prog 25 #[.slice (some ⟨w2.heap.size, 0, none⟩) 2 2, .slice A (fldE r).length c] (w2.alloc (.cells #[.int .u8 0, .int .u8 0] 5)) fun e w' => ∃ v', e = .returned v' ∧ Own w' w1.heap.size v' ([0, 0] ++ putE (fldE r)) ∧ Below w1.heap.size w1 w' := by
  subst hX
  have hd : w1.drew.heap.size = w1.heap.size := rfl
  have hs := hb.size
  rw [hd] at hs
  have hE' := hE.grown (World.grownBy_alloc w2 (.cells #[.int .u8 0, .int .u8 0] 5) (some w2.heap.size))
  refine (put_any (base := w2.heap.size) (own_two w2) (by rw [World.size_alloc]; omega) hE' (fld_ok hr) (by have := els_elOk hr; omega) (by have := fld_len hr; simp; omega)).mono fun e w' => ?_
  rintro ⟨v', rfl, hp⟩
  have h1 : Below w1.heap.size w1 (w2.alloc (.cells #[.int .u8 0, .int .u8 0] 5)) := (drew_below hb).alloc hs _
  exact ⟨v', rfl, hp.own.mono hs, h1.grown hp.grown (by rw [World.size_alloc]; omega) (fun g hg => by obtain rfl : w2.heap.size = g := Option.some.inj hg; exact hs)⟩
theorem own_some {w : World} {base : Nat} {v : Value} {l : List Int} (h : Own w base v l) (hl : l ≠ []) : ∃ g m c, v = .slice (some ⟨g, 0, none⟩) m c ∧ m = l.length ∧ base ≤ g ∧ g < w.heap.size := by
  rcases h.1.2 with ⟨_, h0⟩ | ⟨g, cap, cur, hv, hb, hg, _⟩
  · exact absurd (List.length_eq_zero_iff.1 h0) hl
  · exact ⟨g, _, cap, hv, rfl, hb, heap_lt hg⟩
abbrev O2 : Obj := .cells #[.int .u8 0, .int .u8 0] 5
/-- What put gives behind both. -/
def PutQ (r : Rc) (w1 : World) (e : Ending) (w' : World) : Prop := ∃ v', e = .returned v' ∧ Own w' w1.heap.size v' ([0, 0] ++ putE (fldE r)) ∧ Below w1.heap.size w1 w'
theorem elemsA {r : Rc} (hr : r.Small) {w1 : World} {g : Nat} (hx : RcB w1 g r) {N : Nat} (hN : (fldE r).length = N) : Calls Try.prog 27 #[.agg r.cells] (w1.alloc O2).drew fun e w2 => ∃ A c, e = .returned (.slice A N c) ∧ RcB w2 g r ∧
    Calls Try.prog 25 #[.slice (some ⟨w1.heap.size, 0, none⟩) 2 2, .slice A N c] w2 (PutQ r w1) := by
  subst hN
  refine (fieldsV_any r hr _).mono fun e w2 => ?_
  rintro ⟨v, rfl, hf, hb⟩
  have hd : (w1.alloc O2).drew.heap.size = w1.heap.size + 1 := World.size_alloc _ _
  obtain ⟨A, c, rfl, hE⟩ := hf.els (row := some w1.heap.size) (fun g hg => .inl (by
    obtain rfl : w1.heap.size = g := Option.some.inj hg
    omega))
  exact ⟨A, c, rfl, (hx.alloc O2).drew.below hb (heap_lt (hx.alloc O2).drew), putA hr rfl hb hE⟩
theorem elemsB {r : Rc} (hr : r.Small) {w1 : World} {g : Nat} (hx : RcB w1 g r) {N : Nat} (hN : (fldE r).length = N) : Calls Try.prog 27 #[.agg r.cells] w1.drew fun e w2 => ∃ A c, e = .returned (.slice A N c) ∧ RcB w2 g r ∧
    Calls Try.prog 25 #[.slice (some ⟨w2.heap.size, 0, none⟩) 2 2, .slice A N c] (w2.alloc O2) (PutQ r w1) := by
  subst hN
  refine (fieldsV_any r hr _).mono fun e w2 => ?_
  rintro ⟨v, rfl, hf, hb⟩
  obtain ⟨A, c, rfl, hE⟩ := hf.els (row := some w2.heap.size) (fun g hg => .inr (by
    obtain rfl : w2.heap.size = g := Option.some.inj hg
    exact Nat.le_refl _))
  exact ⟨A, c, rfl, hx.drew.below hb (heap_lt hx.drew), putB hr rfl hb hE⟩
set_option maxRecDepth 100000 in
set_option maxHeartbeats 8000000 in
theorem encode_ok (r : Rc) (hc : chkR r = 0) (w : World) : Calls Try.prog 17 #[.agg r.cells] w fun e w' => ∃ v, e = .returned (.tuple #[v, .int .i64 0]) ∧ Own w' w.heap.size v (encB r) ∧ Below w.heap.size w w' := by
  obtain ⟨hr, -, -⟩ := chk_small hc
  obtain ⟨L, hL, hL0, hx, hLs⟩ := rec_world w r
  have hck := check_any r (by have := hr.la; unfold maxLen; omega) (by have := hr.lb; unfold maxLen; omega)
  rw [hc] at hck
  obtain ⟨k0, k1, k2, k3, k4, k5, k6, k7, k8, k9, k10, k11⟩ := hx.cells
  unfold Rc.cells at hL hck ⊢
  have HCK := Lib.hid hck; have HR := Lib.hid hr; have HX := Lib.hid hx; have HL0 := Lib.hid hL0; have HLS := Lib.hid hLs
  clear hck hr hx hL0 hLs hc
  go_enter Try.func17, Try.ntmps17
  go_upto_region 4 with (go_at_call 26; refine (HCK.out _).mono ?_; rintro e w1 ⟨rfl, hb1⟩; have HX := Lib.hid (HX.out.below hb1 (by have := HLS.out; omega)); have HB1 := Lib.hid hb1; clear hb1)
  clear k0 k1 k2 k3 k4 k5 k6 k7 k8 k9 k10 k11
  obtain ⟨k0, k1, k2, k3, k4, k5, k6, k7, k8, k9, k10, k11⟩ := HX.out.cells
  have HX0 := HX
  obtain ⟨N, hN⟩ : ∃ N, (fldE r).length = N := ⟨_, rfl⟩
  have hea := elemsA HR.out HX.out hN
  have heb := elemsB HR.out HX.out hN
  unfold Rc.cells at hea heb
  have HEA := Lib.hid hea; have HEB := Lib.hid heb
  clear hea heb hN
  have hmk : ∀ W, (Instr.makeSlice 25 (.int .i64 2) (.int .i64 2)).run Try.prog W = .ok (.slice (some ⟨W.heap.size, 0, none⟩) 2 2) (W.alloc (.cells #[.int .u8 0, .int .u8 0] 5)) := fun W => by
    have h := run_make_row' 25 5 (.int .u8 0) 1 Try.underlying25 byteInfo rfl .i64 .i64 2 (by decide) (by decide) W
    have e : madeCells #[Value.int .u8 0] 2 = #[.int .u8 0, .int .u8 0] := Array.toList_inj.1 ((zeros_cells 2).trans rfl)
    rw [e] at h; exact h
  go_cut [5] from 12 to 15 (fun s5 wx => Own wx w1.heap.size s5 ([0, 0] ++ putE (fldE r)) ∧ Below w1.heap.size w1 wx)
  case first =>
    go_region_held3 (fun w' => w'.cell? ⟨w.heap.size, 0, none⟩ = some (.int .i64 r.s0) ∧ w'.cell? ⟨w.heap.size, 1, none⟩ = some (.int .i64 r.s1) ∧ w'.cell? ⟨w.heap.size, 2, none⟩ = some (.int .i64 r.s2) ∧ w'.cell? ⟨w.heap.size, 3, none⟩ = some (.string r.sa) ∧ w'.cell? ⟨w.heap.size, 4, none⟩ = some (.string r.sb) ∧ w'.cell? ⟨w.heap.size, 5, none⟩ = some (.int .i64 r.s5) ∧ w'.cell? ⟨w.heap.size, 6, none⟩ = some (.int .i64 r.s6) ∧ w'.cell? ⟨w.heap.size, 7, none⟩ = some (.int .i64 r.s7) ∧ w'.cell? ⟨w.heap.size, 8, none⟩ = some (.int .i64 r.s8) ∧ w'.cell? ⟨w.heap.size, 9, none⟩ = some (.bool r.b9) ∧ w'.cell? ⟨w.heap.size, 10, none⟩ = some (.int .i64 r.s10) ∧ w'.cell? ⟨w.heap.size, 11, none⟩ = some (.bool r.b11))
      (first | exact HX.out.cells | exact (HX.out.alloc _).cells | exact HX.out.drew.cells | exact (HX.out.alloc _).drew.cells | go_keep)
      (first
        | (go_at_call 27; (with_reducible refine HEA.out.mono ?_); rintro e w2 ⟨A2, c2, rfl, hx2, hp2⟩; have HX := Lib.hid hx2; have HP := Lib.hid hp2; clear hx2 hp2)
        | (go_at_call 27; (with_reducible refine HEB.out.mono ?_); rintro e w2 ⟨A2, c2, rfl, hx2, hp2⟩; have HX := Lib.hid hx2; have HP := Lib.hid hp2; clear hx2 hp2)
        | (go_at_call 25; (with_reducible refine HP.out.mono ?_); rintro e w3 ⟨v3, rfl, ho3, hb3⟩; have HO3 := Lib.hid ho3; have HB3 := Lib.hid hb3; have HX := Lib.hid (HX0.out.below hb3 (heap_lt HX0.out)); clear ho3 hb3))
    all_goals (go_wp2; go_meet; case rel => exact ⟨HO3.out, HB3.out⟩)
  case rest =>
    obtain ⟨ho5, hb5⟩ := hcut
    have hPl := fld_len HR.out
    obtain ⟨M, hM⟩ : ∃ M, (putE (fldE r)).length = M := ⟨_, rfl⟩
    rw [hM] at hPl
    have hL2 : ([0, 0] ++ putE (fldE r)).length = M + 2 := by simp [hM]
    obtain ⟨g, m, c, rfl, hm, hlt⟩ := own_some ho5 (by simp)
    rw [hL2] at hm
    obtain ⟨q0, f0⟩ := own_cellk ho5 (k := 0) (by omega)
    obtain ⟨q1, f1⟩ := own_cellk ho5 (k := 1) (by omega)
    replace q0 : wc.cell? ⟨g, 0, none⟩ = some (.int .u8 0) := q0
    replace q1 : wc.cell? ⟨g, 1, none⟩ = some (.int .u8 0) := q1
    have e1 : (m : Int) - 2 = (M : Int) := by omega
    have e2 : (M : Int) ≤ 120 := by omega
    have i0 : (0 : Int) < (m : Int) := by omega
    have i1 : (1 : Int) < (m : Int) := by omega
    have HO5 := Lib.hid ho5; have HB5 := Lib.hid hb5; have HM := Lib.hid hM; have HLT := Lib.hid hlt.1
    clear ho5 hb5 hM hL2 hm hPl k0 k1 k2 k3 k4 k5 k6 k7 k8 k9 k10 k11 hmk
    go_wp2
    go_ret2
    have h0 := own_set HO5.out (k := 0) (y := (M : Int) / 256) (by simp) (by omega) (by omega)
    have h1 := own_set h0 (k := 1) (y := (M : Int)) (by simp) (by omega) (by omega)
    refine ⟨_, rfl, ?_, ?_⟩
    · have e : (([0, 0] ++ putE (fldE r)).set 0 ((M : Int) / 256)).set 1 (M : Int) = encB r := by
        unfold encB
        rw [HM.out]
        have e3 : (((M / 256 : Nat) : Nat) : Int) = (M : Int) / 256 := by omega
        have e4 : (((M % 256 : Nat) : Nat) : Int) = (M : Int) := by omega
        rw [e3, e4]; rfl
      rw [e] at h1
      exact h1.mono (by have := HL0.out.size; have := HB1.out.size; omega)
    · have hlw : w.heap.size ≤ L.heap.size := HL0.out.size
      have h9 := HL0.out.trans ((HB1.out.trans (HB5.out.mono HB1.out.size)).mono hlw)
      exact (h9.setCell (by have := HB1.out.size; have := HLT.out; show w.heap.size ≤ g; omega) _).setCell (by have := HB1.out.size; have := HLT.out; show w.heap.size ≤ g; omega) _
/-- The bytes of a record, or its error. -/
theorem encode_any (r : Rc) (ha : r.sa.size ≤ maxLen) (hb : r.sb.size ≤ maxLen) (w : World) : Calls Try.prog 17 #[.agg r.cells] w fun e w' => ∃ v, e = .returned (.tuple #[v, .int .i64 (chkR r)]) ∧ Own w' w.heap.size v (if chkR r = 0 then encB r else []) ∧ Below w.heap.size w w' := by
  by_cases hc : chkR r = 0
  · rw [hc, if_pos rfl]; exact encode_ok r hc w
  · rw [if_neg hc]
    obtain ⟨L, hL, hL0, hx, hLs⟩ := rec_world w r
    have hck := check_any r ha hb
    obtain ⟨x, hxe⟩ : ∃ x, chkR r = x := ⟨_, rfl⟩
    rw [hxe] at hck hc ⊢
    obtain ⟨k0, k1, k2, k3, k4, k5, k6, k7, k8, k9, k10, k11⟩ := hx.cells
    unfold Rc.cells at hL hck ⊢
    have HCK := Lib.hid hck; have HL0 := Lib.hid hL0
    have hx0 : (x != 0) = true := by simp [hc]
    clear hck hx hL0 hLs hxe ha hb
    go_enter Try.func17, Try.ntmps17
    go_wp2_with (go_at_call 26; refine (HCK.out _).mono ?_; rintro e w1 ⟨rfl, hb1⟩)
    go_ret2
    exact ⟨_, rfl, own_none _ _, HL0.out.trans (hb1.mono HL0.out.size)⟩
end Go.Proofs.Ytinnmnhaeejfdaa
