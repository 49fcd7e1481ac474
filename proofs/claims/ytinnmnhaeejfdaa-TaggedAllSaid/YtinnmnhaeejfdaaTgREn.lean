/- Walk: the bytes of a record in the reference. -/
import Derived.Test.YtinnmnhaeejfdaaTgRSh
import Derived.Test.YtinnmnhaeejfdaaTgRBl
import Derived.Test.YtinnmnhaeejfdaaTgErr
import Derived.Test.YtinnmnhaeejfdaaTgEnc
import Derived.Test.YtinnmnhaeejfdaaRegY
import Derived.Deep.Cut
import Derived.Deep.CutRange
namespace Go.Proofs.Ytinnmnhaeejfdaa
open Go.RowKit

theorem refPack_any (s : ByteArray) (w : World) (hs : s.size ≤ maxLen) : Calls Try.prog 29 #[.string s] w fun e w' => ∃ v er, e = .returned (.tuple #[v, .int .i64 er]) ∧ Own w' w.heap.size v (pkE s) ∧ Below w.heap.size w w' := by
  cases hn : numB s.data.toList with
  | false =>
    refine (refPack_no s w hs hn).mono fun e w' => ?_
    rintro ⟨rfl, rfl⟩
    refine ⟨_, _, rfl, ?_, Below.refl _ _⟩
    unfold pkE; rw [hn]; exact own_none _ _
  | true =>
    refine (refPack_ok s w hn).mono fun e w' => ?_
    rintro ⟨v, rfl, ho, hb⟩
    refine ⟨_, _, rfl, ⟨?_, pk_ran s⟩, hb⟩
    have e1 : pkE s = (List.range ((s.size + 1) / 2)).map (pk s.data.toList) := by unfold pkE; rw [hn]; rfl
    have e2 : C8 (pkE s) = pkTo s.data.toList ((s.size + 1) / 2) := by rw [e1]; simp [C8, pkTo]
    have e3 : (pkE s).length = (s.size + 1) / 2 := by rw [e1]; simp
    rw [e2, e3]; exact ho
theorem refShortest_z {z : Int} (h : 0 ≤ z ∧ z ≤ 1099511627776) (w : World) : Calls Try.prog 30 #[.int .i64 z] w fun e w' => ∃ v, e = .returned v ∧ Own w' w.heap.size v (shE z.toNat) ∧ Below w.heap.size w w' := by
  obtain ⟨n, rfl⟩ := Int.eq_ofNat_of_zero_le h.1
  rw [Int.toNat_natCast]
  exact refShortest_any n (by omega) w
theorem refFlags_any (r : Rc) (w : World) : Calls Try.prog 31 #[.agg r.cells] w fun e w' => e = .returned (.int .i64 (flg r)) ∧ Below w.heap.size w w' := by
  obtain ⟨s0, s1, s2, sa, sb, s5, s6, s7, s8, b9, s10, b11⟩ := r
  cases b9 <;> cases b11 <;>
    (go_enter Try.func31, Try.ntmps31
     simp only [Rc.cells]
     go_wp2
     go_ret
     exact ⟨rfl, (Below.refl _ _).alloc (Nat.le_refl _) _⟩)
/-- A slice of slices of bytes that has been built. -/
def SlsP (B : Nat) (ls : List (List Int)) (v : Value) (w : World) : Prop := ∃ g us, v = .slice (some ⟨g, 0, none⟩) ls.length ls.length ∧ w.heap[g]? = some (.cells (List.toArray us) 25 (0, 0)) ∧ LieV w B ls us
def YP.sls (B : Nat) (ls : List (List Int)) : YP := ⟨SlsP B ls, fun v w w' h hb => by
  obtain ⟨g, us, h1, h2, h3⟩ := h
  exact ⟨g, us, h1, by rw [hb.block g (heap_lt h2)]; exact h2, h3.below hb⟩⟩
theorem empty_yes {s : ByteArray} (h : s.size = 0) : s.toList.isEmpty = true := by
  obtain ⟨d⟩ := s
  have : d = #[] := Array.eq_empty_of_size_eq_zero h
  subst this
  first | decide | simp
theorem fldE_one (r : Rc) : fldE r = fltE 1 ((valsE r).drop 1) := by simp [fldE, valsE, fltE]
theorem flt_bld : ∀ (ls : List (List Int)) (k : Nat) (q : Int), 0 ≤ q → q < k → k + ls.length ≤ 256 → (∀ l ∈ ls, l.length ≤ 255) → bldE (fltE k ls) q = 0
  | [], _, _, _, _, _, _ => rfl
  | l :: t, k, q, h0, h1, h2, h3 => by
    rw [fltE]
    simp only [List.length_cons] at h2
    split
    · exact flt_bld t (k + 1) q h0 (by omega) (by omega) (fun x hx => h3 x (List.mem_cons_of_mem _ hx))
    · simp only [bldE]
      have := h3 l (List.mem_cons_self ..)
      rw [if_neg (by omega), if_neg (by omega), if_neg (by omega)]
      exact flt_bld t (k + 1) k (by omega) (by omega) (by omega) (fun x hx => h3 x (List.mem_cons_of_mem _ hx))
theorem fld_bld {r : Rc} (hr : r.Small) : bldE (fldE r) 0 = 0 := by
  rw [fldE_one]
  refine flt_bld _ 1 0 (by omega) (by omega) (by show 1 + 11 ≤ 256; decide) (fun l hl => ?_)
  have := vals_len hr l (List.mem_of_mem_drop hl)
  omega
theorem own_lit2 (w : World) (x y : Int) : (w.alloc (.cells #[.int .u8 x, .int .u8 y] 5)).ownsRow w.heap.size 5 1 (.slice (some ⟨w.heap.size, 0, none⟩) 2 2) 2 [.int .u8 x, .int .u8 y] :=
  own_of (Nat.le_refl _) (heap_alloc_new _ _) (by decide) rfl
theorem own_at {f : FuncId} {args : Array Value} {w w2 : World} {B : Nat} {l : List Int} (hB : B ≤ w2.heap.size) (hI : Below w2.heap.size w2 w)
    (hc : Calls Try.prog f args w fun e w' => ∃ v, e = .returned v ∧ Own w' w.heap.size v l ∧ Below w.heap.size w w') :
    Calls Try.prog f args w fun e w' => ∃ v, e = .returned v ∧ (YP.own B l).holds v w' ∧ Below w.heap.size w w' :=
  hc.mono fun e w' ⟨v, h1, h2, h3⟩ => ⟨v, h1, h2.mono (Nat.le_trans hB hI.size), h3⟩
def rfT (r : Rc) (b B : Nat) : List YP := [.val (.pointer (some ⟨b, 2, none⟩)), .val (.int .i64 r.s2), .own B (shE r.s2.toNat), .val (.pointer (some ⟨b, 0, none⟩)), .val (.int .i64 r.s0), .own B (shE r.s0.toNat), .val (.pointer (some ⟨b, 1, none⟩)), .val (.int .i64 r.s1), .own B (shE r.s1.toNat), .own B (pkE r.sa), .own B (pkE r.sb), .val (.pointer (some ⟨b, 5, none⟩)), .val (.int .i64 r.s5), .own B (shE r.s5.toNat), .val (.pointer (some ⟨b, 6, none⟩)), .val (.int .i64 r.s6), .own B (shE r.s6.toNat), .val (.pointer (some ⟨b, 7, none⟩)), .val (.int .i64 r.s7), .own B (shE r.s7.toNat), .val (.pointer (some ⟨b, 8, none⟩)), .val (.int .i64 r.s8), .own B (shE r.s8.toNat), .val (.pointer (some ⟨b, 10, none⟩)), .val (.int .i64 r.s10), .own B (shE r.s10.toNat), .val (.agg r.cells), .val (.int .i64 (flg r)), .own B (shE (flg r)), .sls B (valsE r)]
set_option maxRecDepth 100000 in
set_option maxHeartbeats 16000000 in
theorem refEncode_ok (r : Rc) (hc : chkR r = 0) (w : World) : Calls Try.prog 18 #[.agg r.cells] w fun e w' => ∃ v, e = .returned (.tuple #[v, .int .i64 0]) ∧ Own w' w.heap.size v (encB r) ∧ Below w.heap.size w w' := by
  obtain ⟨hr, -, -⟩ := chk_small hc
  obtain ⟨i0, hi0, hz0, hz1, hz2⟩ := info_parts byteInfo
  obtain ⟨j0, hj0, hy0, hy1, hy2⟩ := info_parts elInfo
  have mA : r.sa.size ≤ maxLen := by have := hr.la; unfold maxLen; omega
  have mB : r.sb.size ≤ maxLen := by have := hr.lb; unfold maxLen; omega
  have hck := refErr_any r mA mB
  rw [hc] at hck
  obtain ⟨L, hL, hL0, hx, hLs⟩ := rec_world w r
  have HR := Lib.hid hr; have HX := Lib.hid hx; have HL0 := Lib.hid hL0; have HLS := Lib.hid hLs
  obtain ⟨bb, hbb⟩ : ∃ bb, r.sb.toList.isEmpty = bb := ⟨_, rfl⟩
  have HBB := Lib.hid hbb
  obtain ⟨k0, k1, k2, k3, k4, k5, k6, k7, k8, k9, k10, k11⟩ := hx.cells
  unfold Rc.cells at hL hck ⊢
  have HCK := Lib.hid hck
  clear hr hx hL0 hLs hck
  go_enter Try.func18, Try.ntmps18
  go_upto_if 26 with (first
    | (go_at_call 28; refine (HCK.out _).mono ?_; rintro e w0 ⟨rfl, hb0⟩; have HB0 := Lib.hid hb0; have hx0 := HX.out.below hb0 (by have := HLS.out; omega); obtain ⟨-, -, -, k3, k4, -⟩ := hx0.cells; clear hx0 hb0)
    | (go_at_call 29; with_reducible refine (refPack_any r.sa _ mA).mono ?_; rintro e w1 ⟨v1, er1, rfl, ho1, hb1⟩; have HO1 := Lib.hid (ho1.mono HB0.out.size); have HB1 := Lib.hid (HB0.out.trans (hb1.mono HB0.out.size)); have hx1 := HX.out.below HB1.out (by have := HLS.out; omega); obtain ⟨-, -, -, k3, k4, -⟩ := hx1.cells; clear hx1 ho1 hb1))
  go_cut [7] from 13 to 99 (fun s7 wx => Own wx L.heap.size s7 (pkE r.sb) ∧ Below w1.heap.size w1 wx)
  case first =>
    cases bb
    · go_wp2_with (go_at_call 29; with_reducible refine (refPack_any r.sb _ mB).mono ?_; rintro e w2 ⟨v2, er2, rfl, ho2, hb2⟩; have HO2 := Lib.hid (ho2.mono HB1.out.size); have HB2 := Lib.hid hb2; clear ho2 hb2)
      go_meet
      case rel => exact ⟨HO2.out, HB2.out⟩
    · have hz : r.sb.size = 0 := by
        rcases Nat.eq_zero_or_pos r.sb.size with h | h
        · exact h
        · have h2 := empty_not (s := r.sb) (by omega)
          rw [HBB.out] at h2; cases h2
      have hpn : pkE r.sb = [] := by
        unfold pkE
        split
        · rename_i hn; have := num_len hn; omega
        · rfl
      go_wp2
      go_meet
      case rel => exact ⟨by rw [hpn]; exact own_none _ _, Below.refl _ _⟩
  case rest =>
    obtain ⟨ho7, hb7⟩ := hcut
    have HO2 := Lib.hid ho7; have HO1 := Lib.hid (HO1.out.below hb7); have HB2 := Lib.hid (HB1.out.trans (hb7.mono HB1.out.size))
    clear ho7 hb7 k0 k1 k2 k3 k4 k5 k6 k7 k8 k9 k10 k11
    obtain ⟨w2, hw2⟩ : ∃ w2, w2 = wc := ⟨_, rfl⟩
    subst hw2
    go_upto_region 8 with fail
    go_cut [8] from 13 to 99 (fun s8 wy => SlsP L.heap.size (valsE r) s8 wy ∧ Below w2.heap.size w2 wy)
    case first =>
      rename_i hJ hK
      refine wp_region_stable (I := fun w' => Below w2.heap.size w2 w') (Y := fun i v w' => ((rfT r w.heap.size L.heap.size).getD i .any).holds v w') (n := 30) (ol := _) (by kernel_rfl) (fit_of (ol := _) (by kernel_rfl) rfl rfl) (show 100 ≤ 1000000 by decide) ?qI ?qS ?qE
      case qI => exact (Below.refl _ _).drew
      case qS =>
        intro i o hi ho listed a wx hA hd
        have hI := hA.inv
        have hL2 := HB2.out.size
        have hLx := HB2.out.trans (hI.mono hL2)
        have t1 : a.tmps[1]?.getD undef = .pointer (some ⟨w.heap.size, 0, none⟩) := by rw [← Array.getD_eq_getD_getElem?]; exact hA.same 1 (by kernel_rfl)
        have t5 : a.tmps[5]?.getD undef = v1 := by rw [← Array.getD_eq_getD_getElem?]; exact hA.same 5 (by kernel_rfl)
        have t7 : a.tmps[7]?.getD undef = u7 := by rw [← Array.getD_eq_getD_getElem?]; exact hA.same 7 (by kernel_rfl)
        have hX := HX.out.below hLx (by have := HLS.out; omega)
        obtain ⟨k0, k1, k2, k3, k4, k5, k6, k7, k8, k9, k10, k11⟩ := hX.cells
        have hcs : i = 0 ∨ i = 1 ∨ i = 2 ∨ i = 3 ∨ i = 4 ∨ i = 5 ∨ i = 6 ∨ i = 7 ∨ i = 8 ∨ i = 9 ∨ i = 10 ∨ i = 11 ∨ i = 12 ∨ i = 13 ∨ i = 14 ∨ i = 15 ∨ i = 16 ∨ i = 17 ∨ i = 18 ∨ i = 19 ∨ i = 20 ∨ i = 21 ∨ i = 22 ∨ i = 23 ∨ i = 24 ∨ i = 25 ∨ i = 26 ∨ i = 27 ∨ i = 28 ∨ i = 29 := by omega
        rcases hcs with rfl | rfl | rfl | rfl | rfl | rfl | rfl | rfl | rfl | rfl | rfl | rfl | rfl | rfl | rfl | rfl | rfl | rfl | rfl | rfl | rfl | rfl | rfl | rfl | rfl | rfl | rfl | rfl | rfl | rfl
        · obtain rfl := Option.some.inj ho
          exact step_val (v := .pointer (some ⟨w.heap.size, 2, none⟩)) (by simp [go_sem, t1]) hI rfl
        · obtain rfl := Option.some.inj ho
          have d0 : a.tmps[33]?.getD undef = .pointer (some ⟨w.heap.size, 2, none⟩) := by rw [← Array.getD_eq_getD_getElem?]; exact hd { on := 0, ground := .data } (by simp) rfl
          exact step_val (v := .int .i64 r.s2) (by simp [go_sem, d0, k2]) hI rfl
        · obtain rfl := Option.some.inj ho
          have d1 : a.tmps[34]?.getD undef = .int .i64 r.s2 := by rw [← Array.getD_eq_getD_getElem?]; exact hd { on := 1, ground := .data } (by simp) rfl
          exact step_call (f := 30) (args := #[.int .i64 r.s2]) (by simp [go_sem, d1]) (yp_call (T := rfT r w.heap.size L.heap.size) (k := .own L.heap.size (shE r.s2.toNat)) rfl hI (own_at hL2 hI (refShortest_z HR.out.n2 _)))
        · obtain rfl := Option.some.inj ho
          exact step_val (v := .pointer (some ⟨w.heap.size, 0, none⟩)) (by simp [go_sem, t1]) hI rfl
        · obtain rfl := Option.some.inj ho
          have d3 : a.tmps[36]?.getD undef = .pointer (some ⟨w.heap.size, 0, none⟩) := by rw [← Array.getD_eq_getD_getElem?]; exact hd { on := 3, ground := .data } (by simp) rfl
          exact step_val (v := .int .i64 r.s0) (by simp [go_sem, d3, k0]) hI rfl
        · obtain rfl := Option.some.inj ho
          have d4 : a.tmps[37]?.getD undef = .int .i64 r.s0 := by rw [← Array.getD_eq_getD_getElem?]; exact hd { on := 4, ground := .data } (by simp) rfl
          exact step_call (f := 30) (args := #[.int .i64 r.s0]) (by simp [go_sem, d4]) (yp_call (T := rfT r w.heap.size L.heap.size) (k := .own L.heap.size (shE r.s0.toNat)) rfl hI (own_at hL2 hI (refShortest_z HR.out.n0 _)))
        · obtain rfl := Option.some.inj ho
          exact step_val (v := .pointer (some ⟨w.heap.size, 1, none⟩)) (by simp [go_sem, t1]) hI rfl
        · obtain rfl := Option.some.inj ho
          have d6 : a.tmps[39]?.getD undef = .pointer (some ⟨w.heap.size, 1, none⟩) := by rw [← Array.getD_eq_getD_getElem?]; exact hd { on := 6, ground := .data } (by simp) rfl
          exact step_val (v := .int .i64 r.s1) (by simp [go_sem, d6, k1]) hI rfl
        · obtain rfl := Option.some.inj ho
          have d7 : a.tmps[40]?.getD undef = .int .i64 r.s1 := by rw [← Array.getD_eq_getD_getElem?]; exact hd { on := 7, ground := .data } (by simp) rfl
          exact step_call (f := 30) (args := #[.int .i64 r.s1]) (by simp [go_sem, d7]) (yp_call (T := rfT r w.heap.size L.heap.size) (k := .own L.heap.size (shE r.s1.toNat)) rfl hI (own_at hL2 hI (refShortest_z HR.out.n1 _)))
        · obtain rfl := Option.some.inj ho
          exact step_val (v := v1) (by simp [go_sem, t5]) hI (Own.below (w := w2) HO1.out hI)
        · obtain rfl := Option.some.inj ho
          exact step_val (v := u7) (by simp [go_sem, t7]) hI (Own.below (w := w2) HO2.out hI)
        · obtain rfl := Option.some.inj ho
          exact step_val (v := .pointer (some ⟨w.heap.size, 5, none⟩)) (by simp [go_sem, t1]) hI rfl
        · obtain rfl := Option.some.inj ho
          have d11 : a.tmps[44]?.getD undef = .pointer (some ⟨w.heap.size, 5, none⟩) := by rw [← Array.getD_eq_getD_getElem?]; exact hd { on := 11, ground := .data } (by simp) rfl
          exact step_val (v := .int .i64 r.s5) (by simp [go_sem, d11, k5]) hI rfl
        · obtain rfl := Option.some.inj ho
          have d12 : a.tmps[45]?.getD undef = .int .i64 r.s5 := by rw [← Array.getD_eq_getD_getElem?]; exact hd { on := 12, ground := .data } (by simp) rfl
          exact step_call (f := 30) (args := #[.int .i64 r.s5]) (by simp [go_sem, d12]) (yp_call (T := rfT r w.heap.size L.heap.size) (k := .own L.heap.size (shE r.s5.toNat)) rfl hI (own_at hL2 hI (refShortest_z HR.out.n5 _)))
        · obtain rfl := Option.some.inj ho
          exact step_val (v := .pointer (some ⟨w.heap.size, 6, none⟩)) (by simp [go_sem, t1]) hI rfl
        · obtain rfl := Option.some.inj ho
          have d14 : a.tmps[47]?.getD undef = .pointer (some ⟨w.heap.size, 6, none⟩) := by rw [← Array.getD_eq_getD_getElem?]; exact hd { on := 14, ground := .data } (by simp) rfl
          exact step_val (v := .int .i64 r.s6) (by simp [go_sem, d14, k6]) hI rfl
        · obtain rfl := Option.some.inj ho
          have d15 : a.tmps[48]?.getD undef = .int .i64 r.s6 := by rw [← Array.getD_eq_getD_getElem?]; exact hd { on := 15, ground := .data } (by simp) rfl
          exact step_call (f := 30) (args := #[.int .i64 r.s6]) (by simp [go_sem, d15]) (yp_call (T := rfT r w.heap.size L.heap.size) (k := .own L.heap.size (shE r.s6.toNat)) rfl hI (own_at hL2 hI (refShortest_z HR.out.n6 _)))
        · obtain rfl := Option.some.inj ho
          exact step_val (v := .pointer (some ⟨w.heap.size, 7, none⟩)) (by simp [go_sem, t1]) hI rfl
        · obtain rfl := Option.some.inj ho
          have d17 : a.tmps[50]?.getD undef = .pointer (some ⟨w.heap.size, 7, none⟩) := by rw [← Array.getD_eq_getD_getElem?]; exact hd { on := 17, ground := .data } (by simp) rfl
          exact step_val (v := .int .i64 r.s7) (by simp [go_sem, d17, k7]) hI rfl
        · obtain rfl := Option.some.inj ho
          have d18 : a.tmps[51]?.getD undef = .int .i64 r.s7 := by rw [← Array.getD_eq_getD_getElem?]; exact hd { on := 18, ground := .data } (by simp) rfl
          exact step_call (f := 30) (args := #[.int .i64 r.s7]) (by simp [go_sem, d18]) (yp_call (T := rfT r w.heap.size L.heap.size) (k := .own L.heap.size (shE r.s7.toNat)) rfl hI (own_at hL2 hI (refShortest_z HR.out.n7 _)))
        · obtain rfl := Option.some.inj ho
          exact step_val (v := .pointer (some ⟨w.heap.size, 8, none⟩)) (by simp [go_sem, t1]) hI rfl
        · obtain rfl := Option.some.inj ho
          have d20 : a.tmps[53]?.getD undef = .pointer (some ⟨w.heap.size, 8, none⟩) := by rw [← Array.getD_eq_getD_getElem?]; exact hd { on := 20, ground := .data } (by simp) rfl
          exact step_val (v := .int .i64 r.s8) (by simp [go_sem, d20, k8]) hI rfl
        · obtain rfl := Option.some.inj ho
          have d21 : a.tmps[54]?.getD undef = .int .i64 r.s8 := by rw [← Array.getD_eq_getD_getElem?]; exact hd { on := 21, ground := .data } (by simp) rfl
          exact step_call (f := 30) (args := #[.int .i64 r.s8]) (by simp [go_sem, d21]) (yp_call (T := rfT r w.heap.size L.heap.size) (k := .own L.heap.size (shE r.s8.toNat)) rfl hI (own_at hL2 hI (refShortest_z HR.out.n8 _)))
        · obtain rfl := Option.some.inj ho
          exact step_val (v := .pointer (some ⟨w.heap.size, 10, none⟩)) (by simp [go_sem, t1]) hI rfl
        · obtain rfl := Option.some.inj ho
          have d23 : a.tmps[56]?.getD undef = .pointer (some ⟨w.heap.size, 10, none⟩) := by rw [← Array.getD_eq_getD_getElem?]; exact hd { on := 23, ground := .data } (by simp) rfl
          exact step_val (v := .int .i64 r.s10) (by simp [go_sem, d23, k10]) hI rfl
        · obtain rfl := Option.some.inj ho
          have d24 : a.tmps[57]?.getD undef = .int .i64 r.s10 := by rw [← Array.getD_eq_getD_getElem?]; exact hd { on := 24, ground := .data } (by simp) rfl
          exact step_call (f := 30) (args := #[.int .i64 r.s10]) (by simp [go_sem, d24]) (yp_call (T := rfT r w.heap.size L.heap.size) (k := .own L.heap.size (shE r.s10.toNat)) rfl hI (own_at hL2 hI (refShortest_z HR.out.n10 _)))
        · obtain rfl := Option.some.inj ho
          exact step_val (v := .agg r.cells) (by simp [go_sem, t1, k0, k1, k2, k3, k4, k5, k6, k7, k8, k9, k10, k11, Rc.cells]) hI rfl
        · obtain rfl := Option.some.inj ho
          have d26 : a.tmps[59]?.getD undef = .agg r.cells := by rw [← Array.getD_eq_getD_getElem?]; exact hd { on := 26, ground := .data } (by simp) rfl
          exact step_call (f := 31) (args := #[.agg r.cells]) (by simp [go_sem, d26]) (yp_call (T := rfT r w.heap.size L.heap.size) (k := .val (.int .i64 (flg r))) rfl hI ((refFlags_any r _).mono fun e w' h => ⟨_, h.1, rfl, h.2⟩))
        · obtain rfl := Option.some.inj ho
          have d27 : a.tmps[60]?.getD undef = .int .i64 (flg r) := by rw [← Array.getD_eq_getD_getElem?]; exact hd { on := 27, ground := .data } (by simp) rfl
          exact step_call (f := 30) (args := #[.int .i64 (flg r)]) (by simp [go_sem, d27]) (yp_call (T := rfT r w.heap.size L.heap.size) (k := .own L.heap.size (shE (flg r))) rfl hI (own_at hL2 hI (refShortest_any _ (by have := flg_small r; omega) _)))
        · obtain rfl := Option.some.inj ho
          have d2 : Own wx L.heap.size (a.tmps[35]?.getD undef) (shE r.s2.toNat) := by rw [← Array.getD_eq_getD_getElem?]; exact hd { on := 2, ground := .data } (by simp) rfl
          have d5 : Own wx L.heap.size (a.tmps[38]?.getD undef) (shE r.s0.toNat) := by rw [← Array.getD_eq_getD_getElem?]; exact hd { on := 5, ground := .data } (by simp) rfl
          have d8 : Own wx L.heap.size (a.tmps[41]?.getD undef) (shE r.s1.toNat) := by rw [← Array.getD_eq_getD_getElem?]; exact hd { on := 8, ground := .data } (by simp) rfl
          have d9 : Own wx L.heap.size (a.tmps[42]?.getD undef) (pkE r.sa) := by rw [← Array.getD_eq_getD_getElem?]; exact hd { on := 9, ground := .data } (by simp) rfl
          have d10 : Own wx L.heap.size (a.tmps[43]?.getD undef) (pkE r.sb) := by rw [← Array.getD_eq_getD_getElem?]; exact hd { on := 10, ground := .data } (by simp) rfl
          have d13 : Own wx L.heap.size (a.tmps[46]?.getD undef) (shE r.s5.toNat) := by rw [← Array.getD_eq_getD_getElem?]; exact hd { on := 13, ground := .data } (by simp) rfl
          have d16 : Own wx L.heap.size (a.tmps[49]?.getD undef) (shE r.s6.toNat) := by rw [← Array.getD_eq_getD_getElem?]; exact hd { on := 16, ground := .data } (by simp) rfl
          have d19 : Own wx L.heap.size (a.tmps[52]?.getD undef) (shE r.s7.toNat) := by rw [← Array.getD_eq_getD_getElem?]; exact hd { on := 19, ground := .data } (by simp) rfl
          have d22 : Own wx L.heap.size (a.tmps[55]?.getD undef) (shE r.s8.toNat) := by rw [← Array.getD_eq_getD_getElem?]; exact hd { on := 22, ground := .data } (by simp) rfl
          have d25 : Own wx L.heap.size (a.tmps[58]?.getD undef) (shE r.s10.toNat) := by rw [← Array.getD_eq_getD_getElem?]; exact hd { on := 25, ground := .data } (by simp) rfl
          have d28 : Own wx L.heap.size (a.tmps[61]?.getD undef) (shE (flg r)) := by rw [← Array.getD_eq_getD_getElem?]; exact hd { on := 28, ground := .data } (by simp) rfl
          obtain ⟨A2, m2, c2, e2, -, -⟩ := d2.bytm
          rw [e2] at d2
          obtain ⟨A5, m5, c5, e5, -, -⟩ := d5.bytm
          rw [e5] at d5
          obtain ⟨A8, m8, c8, e8, -, -⟩ := d8.bytm
          rw [e8] at d8
          obtain ⟨A9, m9, c9, e9, -, -⟩ := d9.bytm
          rw [e9] at d9
          obtain ⟨A10, m10, c10, e10, -, -⟩ := d10.bytm
          rw [e10] at d10
          obtain ⟨A13, m13, c13, e13, -, -⟩ := d13.bytm
          rw [e13] at d13
          obtain ⟨A16, m16, c16, e16, -, -⟩ := d16.bytm
          rw [e16] at d16
          obtain ⟨A19, m19, c19, e19, -, -⟩ := d19.bytm
          rw [e19] at d19
          obtain ⟨A22, m22, c22, e22, -, -⟩ := d22.bytm
          rw [e22] at d22
          obtain ⟨A25, m25, c25, e25, -, -⟩ := d25.bytm
          rw [e25] at d25
          obtain ⟨A28, m28, c28, e28, -, -⟩ := d28.bytm
          rw [e28] at d28
          have hlie : LieV wx L.heap.size (valsE r) [.slice none 0 0, .slice A2 m2 c2, .slice A5 m5 c5, .slice A8 m8 c8, .slice A9 m9 c9, .slice A10 m10 c10, .slice A13 m13 c13, .slice A16 m16 c16, .slice A19 m19 c19, .slice A22 m22 c22, .slice A25 m25 c25, .slice A28 m28 c28] := lie_cons (own_none _ _) <| lie_cons d2 <| lie_cons d5 <| lie_cons d8 <| lie_cons d9 <| lie_cons d10 <| lie_cons d13 <| lie_cons d16 <| lie_cons d19 <| lie_cons d22 <| lie_cons d25 <| lie_cons d28 <| lie_nil _ _
          exact yp_new (T := rfT r w.heap.size L.heap.size) (k := .sls L.heap.size (valsE r)) (w' := wx.alloc (.cells #[.slice none 0 0, .slice A2 m2 c2, .slice A5 m5 c5, .slice A8 m8 c8, .slice A9 m9 c9, .slice A10 m10 c10, .slice A13 m13 c13, .slice A16 m16 c16, .slice A19 m19 c19, .slice A22 m22 c22, .slice A25 m25 c25, .slice A28 m28 c28] 25)) (v := .slice (some ⟨wx.heap.size, 0, none⟩) 12 12) rfl (by simp [go_sem, e2, e5, e8, e9, e10, e13, e16, e19, e22, e25, e28]) hI (below_lit _ _) ⟨_, _, rfl, heap_alloc_new _ _, hlie.below (below_lit _ _)⟩
      case qE =>
        intro listed a wx hA hY
        have hI := hA.inv
        have hs : SlsP L.heap.size (valsE r) (a.eval (.tmp 62)) wx := hY 29 (by decide)
        have hdf : a.defers = [] := hA.defers
        have hl : a.tmps.size = 100 := hA.size
        have s0 := hA.same 0 (by kernel_rfl)
        have s1 := hA.same 1 (by kernel_rfl)
        have s2 := hA.same 2 (by kernel_rfl)
        have s3 := hA.same 3 (by kernel_rfl)
        have s4 := hA.same 4 (by kernel_rfl)
        have s5 := hA.same 5 (by kernel_rfl)
        have s6 := hA.same 6 (by kernel_rfl)
        have s7 := hA.same 7 (by kernel_rfl)
        have s9 := hA.same 9 (by kernel_rfl)
        have s10 := hA.same 10 (by kernel_rfl)
        have s11 := hA.same 11 (by kernel_rfl)
        have s12 := hA.same 12 (by kernel_rfl)
        obtain ⟨g, us, hv, hg, hlie⟩ := hs
        have hv2 : a.tmps[62]?.getD undef = .slice (some ⟨g, 0, none⟩) 12 12 := by rw [← Array.getD_eq_getD_getElem?]; exact hv
        unfold Oper.wp
        have hrun : ∀ o : Oper, o.op = .assign (.tmp 62) → (execOp a.eval o).run Try.prog wx = .ok (.value (.slice (some ⟨g, 0, none⟩) 12 12)) wx := fun o ho => by
          simp [execOp, ho, go_sem, hv2]
        rw [hrun _ rfl]
        clear hA hY hrun hv2
        obtain ⟨⟨l⟩, df⟩ := a
        simp only at hdf
        subst hdf
        replace hl : l.length = 99 + 1 := hl
        obtain ⟨q0, l0, e0, h0⟩ := lit_succ (n := 99) hl
        subst e0
        obtain ⟨q1, l1, e1, h1⟩ := lit_succ (n := 98) h0
        subst e1
        obtain ⟨q2, l2, e2, h2⟩ := lit_succ (n := 97) h1
        subst e2
        obtain ⟨q3, l3, e3, h3⟩ := lit_succ (n := 96) h2
        subst e3
        obtain ⟨q4, l4, e4, h4⟩ := lit_succ (n := 95) h3
        subst e4
        obtain ⟨q5, l5, e5, h5⟩ := lit_succ (n := 94) h4
        subst e5
        obtain ⟨q6, l6, e6, h6⟩ := lit_succ (n := 93) h5
        subst e6
        obtain ⟨q7, l7, e7, h7⟩ := lit_succ (n := 92) h6
        subst e7
        obtain ⟨q8, l8, e8, h8⟩ := lit_succ (n := 91) h7
        subst e8
        obtain ⟨q9, l9, e9, h9⟩ := lit_succ (n := 90) h8
        subst e9
        obtain ⟨q10, l10, e10, h10⟩ := lit_succ (n := 89) h9
        subst e10
        obtain ⟨q11, l11, e11, h11⟩ := lit_succ (n := 88) h10
        subst e11
        obtain ⟨q12, l12, e12, h12⟩ := lit_succ (n := 87) h11
        subst e12
        obtain ⟨q13, l13, e13, h13⟩ := lit_succ (n := 86) h12
        subst e13
        obtain ⟨q14, l14, e14, h14⟩ := lit_succ (n := 85) h13
        subst e14
        obtain ⟨q15, l15, e15, h15⟩ := lit_succ (n := 84) h14
        subst e15
        obtain ⟨q16, l16, e16, h16⟩ := lit_succ (n := 83) h15
        subst e16
        obtain ⟨q17, l17, e17, h17⟩ := lit_succ (n := 82) h16
        subst e17
        obtain ⟨q18, l18, e18, h18⟩ := lit_succ (n := 81) h17
        subst e18
        obtain ⟨q19, l19, e19, h19⟩ := lit_succ (n := 80) h18
        subst e19
        obtain ⟨q20, l20, e20, h20⟩ := lit_succ (n := 79) h19
        subst e20
        obtain ⟨q21, l21, e21, h21⟩ := lit_succ (n := 78) h20
        subst e21
        obtain ⟨q22, l22, e22, h22⟩ := lit_succ (n := 77) h21
        subst e22
        obtain ⟨q23, l23, e23, h23⟩ := lit_succ (n := 76) h22
        subst e23
        obtain ⟨q24, l24, e24, h24⟩ := lit_succ (n := 75) h23
        subst e24
        obtain ⟨q25, l25, e25, h25⟩ := lit_succ (n := 74) h24
        subst e25
        obtain ⟨q26, l26, e26, h26⟩ := lit_succ (n := 73) h25
        subst e26
        obtain ⟨q27, l27, e27, h27⟩ := lit_succ (n := 72) h26
        subst e27
        obtain ⟨q28, l28, e28, h28⟩ := lit_succ (n := 71) h27
        subst e28
        obtain ⟨q29, l29, e29, h29⟩ := lit_succ (n := 70) h28
        subst e29
        obtain ⟨q30, l30, e30, h30⟩ := lit_succ (n := 69) h29
        subst e30
        obtain ⟨q31, l31, e31, h31⟩ := lit_succ (n := 68) h30
        subst e31
        obtain ⟨q32, l32, e32, h32⟩ := lit_succ (n := 67) h31
        subst e32
        obtain ⟨q33, l33, e33, h33⟩ := lit_succ (n := 66) h32
        subst e33
        obtain ⟨q34, l34, e34, h34⟩ := lit_succ (n := 65) h33
        subst e34
        obtain ⟨q35, l35, e35, h35⟩ := lit_succ (n := 64) h34
        subst e35
        obtain ⟨q36, l36, e36, h36⟩ := lit_succ (n := 63) h35
        subst e36
        obtain ⟨q37, l37, e37, h37⟩ := lit_succ (n := 62) h36
        subst e37
        obtain ⟨q38, l38, e38, h38⟩ := lit_succ (n := 61) h37
        subst e38
        obtain ⟨q39, l39, e39, h39⟩ := lit_succ (n := 60) h38
        subst e39
        obtain ⟨q40, l40, e40, h40⟩ := lit_succ (n := 59) h39
        subst e40
        obtain ⟨q41, l41, e41, h41⟩ := lit_succ (n := 58) h40
        subst e41
        obtain ⟨q42, l42, e42, h42⟩ := lit_succ (n := 57) h41
        subst e42
        obtain ⟨q43, l43, e43, h43⟩ := lit_succ (n := 56) h42
        subst e43
        obtain ⟨q44, l44, e44, h44⟩ := lit_succ (n := 55) h43
        subst e44
        obtain ⟨q45, l45, e45, h45⟩ := lit_succ (n := 54) h44
        subst e45
        obtain ⟨q46, l46, e46, h46⟩ := lit_succ (n := 53) h45
        subst e46
        obtain ⟨q47, l47, e47, h47⟩ := lit_succ (n := 52) h46
        subst e47
        obtain ⟨q48, l48, e48, h48⟩ := lit_succ (n := 51) h47
        subst e48
        obtain ⟨q49, l49, e49, h49⟩ := lit_succ (n := 50) h48
        subst e49
        obtain ⟨q50, l50, e50, h50⟩ := lit_succ (n := 49) h49
        subst e50
        obtain ⟨q51, l51, e51, h51⟩ := lit_succ (n := 48) h50
        subst e51
        obtain ⟨q52, l52, e52, h52⟩ := lit_succ (n := 47) h51
        subst e52
        obtain ⟨q53, l53, e53, h53⟩ := lit_succ (n := 46) h52
        subst e53
        obtain ⟨q54, l54, e54, h54⟩ := lit_succ (n := 45) h53
        subst e54
        obtain ⟨q55, l55, e55, h55⟩ := lit_succ (n := 44) h54
        subst e55
        obtain ⟨q56, l56, e56, h56⟩ := lit_succ (n := 43) h55
        subst e56
        obtain ⟨q57, l57, e57, h57⟩ := lit_succ (n := 42) h56
        subst e57
        obtain ⟨q58, l58, e58, h58⟩ := lit_succ (n := 41) h57
        subst e58
        obtain ⟨q59, l59, e59, h59⟩ := lit_succ (n := 40) h58
        subst e59
        obtain ⟨q60, l60, e60, h60⟩ := lit_succ (n := 39) h59
        subst e60
        obtain ⟨q61, l61, e61, h61⟩ := lit_succ (n := 38) h60
        subst e61
        obtain ⟨q62, l62, e62, h62⟩ := lit_succ (n := 37) h61
        subst e62
        obtain ⟨q63, l63, e63, h63⟩ := lit_succ (n := 36) h62
        subst e63
        obtain ⟨q64, l64, e64, h64⟩ := lit_succ (n := 35) h63
        subst e64
        obtain ⟨q65, l65, e65, h65⟩ := lit_succ (n := 34) h64
        subst e65
        obtain ⟨q66, l66, e66, h66⟩ := lit_succ (n := 33) h65
        subst e66
        obtain ⟨q67, l67, e67, h67⟩ := lit_succ (n := 32) h66
        subst e67
        obtain ⟨q68, l68, e68, h68⟩ := lit_succ (n := 31) h67
        subst e68
        obtain ⟨q69, l69, e69, h69⟩ := lit_succ (n := 30) h68
        subst e69
        obtain ⟨q70, l70, e70, h70⟩ := lit_succ (n := 29) h69
        subst e70
        obtain ⟨q71, l71, e71, h71⟩ := lit_succ (n := 28) h70
        subst e71
        obtain ⟨q72, l72, e72, h72⟩ := lit_succ (n := 27) h71
        subst e72
        obtain ⟨q73, l73, e73, h73⟩ := lit_succ (n := 26) h72
        subst e73
        obtain ⟨q74, l74, e74, h74⟩ := lit_succ (n := 25) h73
        subst e74
        obtain ⟨q75, l75, e75, h75⟩ := lit_succ (n := 24) h74
        subst e75
        obtain ⟨q76, l76, e76, h76⟩ := lit_succ (n := 23) h75
        subst e76
        obtain ⟨q77, l77, e77, h77⟩ := lit_succ (n := 22) h76
        subst e77
        obtain ⟨q78, l78, e78, h78⟩ := lit_succ (n := 21) h77
        subst e78
        obtain ⟨q79, l79, e79, h79⟩ := lit_succ (n := 20) h78
        subst e79
        obtain ⟨q80, l80, e80, h80⟩ := lit_succ (n := 19) h79
        subst e80
        obtain ⟨q81, l81, e81, h81⟩ := lit_succ (n := 18) h80
        subst e81
        obtain ⟨q82, l82, e82, h82⟩ := lit_succ (n := 17) h81
        subst e82
        obtain ⟨q83, l83, e83, h83⟩ := lit_succ (n := 16) h82
        subst e83
        obtain ⟨q84, l84, e84, h84⟩ := lit_succ (n := 15) h83
        subst e84
        obtain ⟨q85, l85, e85, h85⟩ := lit_succ (n := 14) h84
        subst e85
        obtain ⟨q86, l86, e86, h86⟩ := lit_succ (n := 13) h85
        subst e86
        obtain ⟨q87, l87, e87, h87⟩ := lit_succ (n := 12) h86
        subst e87
        obtain ⟨q88, l88, e88, h88⟩ := lit_succ (n := 11) h87
        subst e88
        obtain ⟨q89, l89, e89, h89⟩ := lit_succ (n := 10) h88
        subst e89
        obtain ⟨q90, l90, e90, h90⟩ := lit_succ (n := 9) h89
        subst e90
        obtain ⟨q91, l91, e91, h91⟩ := lit_succ (n := 8) h90
        subst e91
        obtain ⟨q92, l92, e92, h92⟩ := lit_succ (n := 7) h91
        subst e92
        obtain ⟨q93, l93, e93, h93⟩ := lit_succ (n := 6) h92
        subst e93
        obtain ⟨q94, l94, e94, h94⟩ := lit_succ (n := 5) h93
        subst e94
        obtain ⟨q95, l95, e95, h95⟩ := lit_succ (n := 4) h94
        subst e95
        obtain ⟨q96, l96, e96, h96⟩ := lit_succ (n := 3) h95
        subst e96
        obtain ⟨q97, l97, e97, h97⟩ := lit_succ (n := 2) h96
        subst e97
        obtain ⟨q98, l98, e98, h98⟩ := lit_succ (n := 1) h97
        subst e98
        obtain ⟨q99, l99, e99, h99⟩ := lit_succ (n := 0) h98
        subst e99
        obtain rfl := List.length_eq_zero_iff.1 h99
        replace s0 : q0 = .agg #[.int .i64 r.s0, .int .i64 r.s1, .int .i64 r.s2, .string r.sa, .string r.sb, .int .i64 r.s5, .int .i64 r.s6, .int .i64 r.s7, .int .i64 r.s8, .bool r.b9, .int .i64 r.s10, .bool r.b11] := s0
        replace s1 : q1 = .pointer (some ⟨w.heap.size, 0, none⟩) := s1
        replace s2 : q2 = .slice none 0 0 := s2
        replace s3 : q3 = .int .i64 0 := s3
        replace s4 : q4 = .int .i64 0 := s4
        replace s5 : q5 = v1 := s5
        replace s6 : q6 = .int .i64 er1 := s6
        replace s7 : q7 = u7 := s7
        replace s9 : q9 = undef := s9
        replace s10 : q10 = undef := s10
        replace s11 : q11 = undef := s11
        replace s12 : q12 = undef := s12
        subst s0 s1 s2 s3 s4 s5 s6 s7 s9 s10 s11 s12
        refine hK { tmps := #[_, .pointer (some ⟨w.heap.size, 0, none⟩), .slice none 0 0, .int .i64 0, .int .i64 0, _, .int .i64 er1, _, .slice (some ⟨g, 0, none⟩) 12 12, undef, undef, undef, undef, q13, q14, q15, q16, q17, q18, q19, q20, q21, q22, q23, q24, q25, q26, q27, q28, q29, q30, q31, q32, q33, q34, q35, q36, q37, q38, q39, q40, q41, q42, q43, q44, q45, q46, q47, q48, q49, q50, q51, q52, q53, q54, q55, q56, q57, q58, q59, q60, q61, q62, q63, q64, q65, q66, q67, q68, q69, q70, q71, q72, q73, q74, q75, q76, q77, q78, q79, q80, q81, q82, q83, q84, q85, q86, q87, q88, q89, q90, q91, q92, q93, q94, q95, q96, q97, q98, q99], defers := [] } _ ?_
        go_meet
        case rel => exact ⟨⟨g, us, rfl, hg, hlie⟩, hI⟩
    case rest =>
      obtain ⟨⟨g, us, rfl, hg, hlie⟩, hby⟩ := hcut
      have HG := Lib.hid hg; have HLI := Lib.hid hlie
      have HBY := Lib.hid (HB2.out.trans (hby.mono HB2.out.size))
      have hgs := heap_lt hg
      have hlow := HB2.out.size
      have hL2y := (HB2.out.trans (hby.mono HB2.out.size)).size
      obtain ⟨wy, hwy⟩ : ∃ wy, wy = wc := ⟨_, rfl⟩
      subst hwy
      clear hg hlie hby hlow
      go_wp2
      go_loopw [9, 10] (fun v i wr => ∃ (k : Nat) (es : List El), i = .int .i64 (k : Int) ∧ k ≤ 12 ∧ Hid (es ++ fltE k ((valsE r).drop k) = fldE r) ∧ Hid (es.length ≤ k) ∧ Hid (FoundG wr L.heap.size wy.heap.size v es) ∧ Hid (Below wy.heap.size wy wr)) (fun _ i _ => 12 - (intOf i).toNat)
      case atStart => exact ⟨1, [], rfl, by omega, (fldE_one r).symm, Lib.hid (by simp), ⟨[], World.ownsRow_nil _ _ _ _, by simp, by simp⟩, Below.refl _ _⟩
      case round =>
        obtain ⟨k, es, rfl, hk, HR1, HES, HFO, HB⟩ := hrel
        by_cases hlt : k < 12
        · obtain ⟨l, hl⟩ : ∃ l, (valsE r)[k]? = some l := ⟨_, List.getElem?_eq_getElem (show k < (valsE r).length from hlt)⟩
          obtain ⟨u, hu, hou⟩ := HLI.out.2 k l hl
          obtain ⟨A, m, c, rfl, hm, hy⟩ := hou.bytm
          have hgr : g < wr.heap.size := Nat.lt_of_lt_of_le hgs HB.out.size
          have hcell : wr.cell? ⟨g, k, none⟩ = some (.slice A m c) := by
            have hbk := HB.out.block g hgs
            rw [HG.out] at hbk
            simp only [World.cell?, hbk]
            simpa using hu
          have hfar := hou.far
          have hr1 := HR1.out
          rw [drop_at' hl, fltE] at hr1
          have hlt' : (k : Int) < 12 := by omega
          have HFW := Lib.hid (show ∀ x, A = some x → l ≠ [] → L.heap.size ≤ x.block ∧ x.block < wy.heap.size from hfar); have HY := Lib.hid (hy.below HB.out); have HM := Lib.hid hm
          clear hfar hy hm hou hu hgr
          by_cases h0 : m = 0
          · have hl0 : l = [] := List.length_eq_zero_iff.1 (by have := HY.out.len; omega)
            rw [if_pos hl0] at hr1
            have HR2 := Lib.hid hr1
            clear hr1
            subst h0
            go_wp2
            go_roundw
            case rel => exact ⟨k + 1, es, by first | rfl | (simp; omega), by omega, HR2, Lib.hid (by have := HES.out; omega), HFO, HB⟩
            case measure => simp [intOf]; omega
          · have hl0 : l ≠ [] := fun e => h0 (by have := HY.out.len; rw [e] at this; exact this.symm)
            rw [if_neg hl0] at hr1
            have HR2 := Lib.hid hr1
            have hm0 : (0 : Int) < (m : Int) := by omega
            obtain ⟨vs, hvs, hone, hpay⟩ := HFO.out
            have HVS := Lib.hid hvs; have HONE := Lib.hid hone; have HPAY := Lib.hid hpay
            clear hr1 hvs hone hpay
            go_wp2_with (at_builtin; refine wpList_append_lies _ rfl (.tmp 75) (.tmp 82) 22 rfl wy.heap.size 47 j0 (.agg #[.int .i64 0, .slice none 0 0]) 2 32 Try.underlying22 hj0 hy0 hy1 hy2 rfl (by decide) _ _ _ rfl (World.ownsRow.alloc HVS.out _) ⟨wr.heap.size, 0, none⟩ 1 1 [.int .i64 k, .slice A m c] rfl rfl (cell_two_new _ _ _ _) (by intro u hu; simp at hu; rcases hu with rfl | rfl <;> rfl) (by decide) (by have := HES.out; unfold maxLen; omega) (by have := HES.out; omega) (by have := HB.out.size; simp; omega) (wr.heap.size + 1) (by simp) ?_; intro g3 c4 w3 hown3 hg3 hlie hgl; have HFO3 := Lib.hid (FoundG.more2 HVS.out HONE.out HPAY.out HY.out HFW.out HB.out.size _ hown3 hg3 hlie); have HB4 : Hid (Below wy.heap.size wy w3) := Lib.hid ((HB.out.alloc HB.out.size _).grown hg3 (by have := HB.out.size; simp; omega) (fun g hg' => (World.ownsRow.lt HVS.out g hg').1)); clear hown3 hg3 hlie hgl)
            go_roundw
            case rel => exact ⟨k + 1, es ++ [((k : Int), l)], by first | rfl | (simp; omega), by omega, Lib.hid (by rw [List.append_assoc]; exact HR2.out), Lib.hid (by have := HES.out; simp; omega), HFO3, HB4⟩
            case measure => simp [intOf]; omega
        · obtain rfl : k = 12 := by omega
          have hfin : es = fldE r := by
            have h1 := HR1.out
            rw [List.drop_eq_nil_of_le (show (valsE r).length ≤ 12 from Nat.le_refl 12)] at h1
            simpa [fltE] using h1
          subst hfin
          obtain ⟨A, c, rfl, hE⟩ := HFO.out.els (row := none) (fun g hg => by cases hg)
          obtain ⟨N, hN⟩ : ∃ N, (fldE r).length = N := ⟨_, rfl⟩
          have hN12 := els_elOk HR.out
          have hPl := fld_len HR.out
          have hbe := fld_bld HR.out
          obtain ⟨M, hM⟩ : ∃ M, (putE (fldE r)).length = M := ⟨_, rfl⟩
          rw [hN] at hE hN12
          rw [hM] at hPl
          simp only [hN]
          have HE := Lib.hid hE; have HN := Lib.hid hN12; have HPL := Lib.hid hPl; have HBE := Lib.hid hbe; have HM := Lib.hid hM
          have e2 : (M : Int) ≤ 120 := by omega
          clear hE hN hN12 hPl hbe hM HFO HR1 HES
          go_wp2_with (first
            | (go_at_call 12; refine (refBuild_any HE.out (by have := HN.out; omega)).mono ?_; rintro e w5 ⟨h5, hb5⟩; rw [if_pos HBE.out] at h5; obtain ⟨v5, rfl, ho5⟩ := h5; obtain ⟨A5, m5, c5, rfl, hm5, y5⟩ := ho5.bytm; obtain rfl : m5 = M := (by rw [hm5.out, HM.out]); have HY5 := Lib.hid y5; have HB5 := Lib.hid (HB.out.trans (hb5.mono HB.out.size)); clear ho5 hb5 y5 hm5)
            | (at_builtin; refine wpList_append_has_at rfl (.tmp 97) (.tmp 98) 25 rfl w5.heap.size 5 i0 (.int .u8 0) 1 Try.underlying25 hi0 hz0 hz1 hz2 rfl _ _ _ rfl (own_lit2 w5 _ _) _ _ _ _ rfl (HY5.out.below (below_lit w5 _)).has (by have := HPL.out; unfold maxLen; omega) (by have := HPL.out; omega) (by simp) ?_; intro v6 w6 hown6 hg6 hat6; have HOW6 := Lib.hid hown6; have HG6 := Lib.hid hg6; clear hown6 hg6 hat6))
          go_ret2
          refine ⟨_, rfl, ?_, ?_⟩
          · have e : encB r = ((m5 : Int) / 256) :: ((m5 : Int) % 256) :: putE (fldE r) := by
              unfold encB
              rw [HM.out]
              have e3 : ((m5 / 256 : Nat) : Int) = (m5 : Int) / 256 := by omega
              have e4 : ((m5 % 256 : Nat) : Int) = (m5 : Int) % 256 := by omega
              rw [e3, e4]
            rw [e]
            refine Own.mono (b := w5.heap.size) ⟨?_, ?_⟩ (by have h1 := HB5.out.size; have h2 := HL0.out.size; omega)
            · have h := HOW6.out
              simp only [List.length_cons, HM.out]
              rw [show m5 + 1 + 1 = 2 + m5 by omega]
              exact h
            · intro x hx
              rcases List.mem_cons.1 hx with rfl | hx
              · omega
              · rcases List.mem_cons.1 hx with rfl | hx
                · omega
                · exact HY5.out.ran x hx
          · have h5 := HL0.out.trans ((HBY.out.trans (HB5.out.mono hL2y)).mono HL0.out.size)
            have hs5 : w.heap.size ≤ w5.heap.size := h5.size
            exact (h5.alloc hs5 _).grown HG6.out (by rw [World.size_alloc]; omega) (fun g hg' => Nat.le_trans hs5 (World.ownsRow.lt (own_lit2 w5 ((m5 : Int) / 256) ((m5 : Int) % 256)) g hg').1)
theorem refEncode_any (r : Rc) (ha : r.sa.size ≤ maxLen) (hb : r.sb.size ≤ maxLen) (w : World) : Calls Try.prog 18 #[.agg r.cells] w fun e w' => ∃ v, e = .returned (.tuple #[v, .int .i64 (chkR r)]) ∧ Own w' w.heap.size v (if chkR r = 0 then encB r else []) ∧ Below w.heap.size w w' := by
  by_cases hc : chkR r = 0
  · rw [hc, if_pos rfl]; exact refEncode_ok r hc w
  · rw [if_neg hc]
    obtain ⟨L, hL, hL0, hx, hLs⟩ := rec_world w r
    have hck := refErr_any r ha hb
    obtain ⟨x, hxe⟩ : ∃ x, chkR r = x := ⟨_, rfl⟩
    rw [hxe] at hck hc ⊢
    obtain ⟨k0, k1, k2, k3, k4, k5, k6, k7, k8, k9, k10, k11⟩ := hx.cells
    unfold Rc.cells at hL hck ⊢
    have HCK := Lib.hid hck; have HL0 := Lib.hid hL0
    have hx0 : (x != 0) = true := by simp [hc]
    clear hck hx hL0 hLs hxe ha hb
    go_enter Try.func18, Try.ntmps18
    go_wp2_with (go_at_call 28; refine (HCK.out _).mono ?_; rintro e w1 ⟨rfl, hb1⟩)
    go_ret2
    exact ⟨_, rfl, own_none _ _, HL0.out.trans (hb1.mono HL0.out.size)⟩
end Go.Proofs.Ytinnmnhaeejfdaa
