/- Walks: sum, kindByte, write and Encode, of the program. -/
import Derived.Test.YtblhpbheejemnaaPkP
import Derived.Test.YtblhpbheejemnaaRcChk
namespace Go.Proofs.Ytblhpbheejemnaa
open Go.RowKit

/-- The sum of bytes, modulo 256. -/
def smL (l : List Int) : Int := l.foldl (fun a x => (a + x) % 256) 0
theorem sm_snoc {l : List Int} {k : Nat} {x : Int} (hk : l[k]? = some x) : smL (l.take (k + 1)) = (smL (l.take k) + x) % 256 := by
  obtain ⟨h, rfl⟩ := List.getElem?_eq_some_iff.1 hk
  rw [List.take_succ_eq_append_getElem h]
  unfold smL
  rw [List.foldl_append]
  rfl
theorem sm_ran : ∀ l : List Int, 0 ≤ smL l ∧ smL l ≤ 255 := fun l => by
  unfold smL
  have key : ∀ (l : List Int) (a : Int), 0 ≤ a ∧ a ≤ 255 → 0 ≤ l.foldl (fun a x => (a + x) % 256) a ∧ l.foldl (fun a x => (a + x) % 256) a ≤ 255 := by
    intro l
    induction l with
    | nil => intro a h; exact h
    | cons y l ih => intro a _; exact ih _ (by show 0 ≤ (a + y) % 256 ∧ (a + y) % 256 ≤ 255; omega)
  exact key l 0 (by omega)
set_option maxRecDepth 100000 in
set_option maxHeartbeats 4000000 in
theorem sum_any (A : Option Addr) (m c : Nat) (l : List Int) (w : World) (hA : Byt w A m c l) :
    Calls Try.prog 26 #[.slice A m c] w fun e w' => e = .returned (.int .u8 (smL l)) ∧ w = w' := by
  have hm := hA.len
  have HA := Lib.hid hA; have HM := Lib.hid hm
  have hcm : m ≤ c ∧ c ≤ maxLen := ⟨hA.cap, hA.max⟩
  unfold maxLen at hcm
  clear hA hm
  go_enter Try.func26, Try.ntmps26
  go_wp2_with fail
  go_loopw [3, 8] (fun nv iv wr => ∃ (k : Nat) (z : Int), nv = .int .u8 z ∧ iv = .int .i64 k ∧ k ≤ m ∧ Hid (smL (l.take k) = z) ∧ 0 ≤ z ∧ z ≤ 255 ∧ w = wr) (fun _ iv _ => m - (intOf iv).toNat)
  case atStart => exact ⟨0, 0, rfl, rfl, by omega, Lib.hid (by simp [smL]), by omega, by omega, by first | rfl | trivial⟩
  case round =>
    obtain ⟨k, z, rfl, rfl, hk, HZ, hz0, hz1, rfl⟩ := hrel
    by_cases hlt : k < m
    · have hlt' : (k : Int) < (m : Int) := by omega
      obtain ⟨b, off, x, rfl, hx, hcx, hbl⟩ := HA.out.at hlt
      obtain ⟨r0, r1⟩ := HA.out.ran x (List.mem_of_getElem? hx)
      have HTK := Lib.hid (sm_snoc hx)
      clear hx
      go_wp2_with fail
      go_roundw
      case rel => exact ⟨k + 1, (z + x) % 256, by first | rfl | go_num, by go_num, by omega, Lib.hid (by rw [HTK.out, HZ.out]), by omega, by omega, by first | rfl | trivial⟩
      case measure => simp [intOf]; omega
    · obtain rfl : k = m := by omega
      go_wp2_with fail
      go_ret
      exact ⟨by rw [← HZ.out, List.take_of_length_le (by have := HM.out; omega)]; rfl, rfl⟩
/-- The byte of kind and flags. -/
def kbR (r : Rc) : Int := r.s2 * 16 + (if r.b9 = true then 1 else 0) + (if r.b11 = true then 2 else 0)
theorem or_one16 (a : Int) (h0 : 0 ≤ a) (h1 : a ≤ 4) : bits BinOp.or IntKind.u8 (a * 16) 1 = a * 16 + 1 ∧ bits BinOp.or IntKind.u8 (a * 16) 2 = a * 16 + 2 ∧ bits BinOp.or IntKind.u8 (a * 16 + 1) 2 = a * 16 + 3 := by
  obtain ⟨n, rfl⟩ := Int.eq_ofNat_of_zero_le h0
  have key : ∀ n : Fin 5, bits BinOp.or IntKind.u8 ((n.val : Int) * 16) 1 = (n.val : Int) * 16 + 1 ∧ bits BinOp.or IntKind.u8 ((n.val : Int) * 16) 2 = (n.val : Int) * 16 + 2 ∧ bits BinOp.or IntKind.u8 ((n.val : Int) * 16 + 1) 2 = (n.val : Int) * 16 + 3 := by decide +kernel
  exact key ⟨n, by omega⟩
set_option maxHeartbeats 2000000 in
theorem kind_any (r : Rc) (h1 : 0 ≤ r.s2) (h4 : r.s2 ≤ 4) (w : World) : Calls Try.prog 36 #[.agg r.cells] w fun e w' => e = .returned (.int .u8 (kbR r)) ∧ Below w.heap.size w w' := by
  have HB0 : Hid (Below w.heap.size w (w.alloc (.cells r.cells 31))) := Lib.hid ((Below.refl _ w).alloc (Nat.le_refl _) _)
  obtain ⟨s0, s1, s2, sa, sb, s5, s6, s7, s8, b9, s10, b11⟩ := r
  simp only at h1 h4
  obtain ⟨o1, o2, o3⟩ := or_one16 s2 h1 h4
  unfold Rc.cells at HB0 ⊢
  simp only [kbR]
  cases b9 <;> cases b11
  all_goals
    go_enter Try.func36, Try.ntmps36
    go_wp2_with fail
    go_ret
    exact ⟨ret_int (by first | rfl | omega | (simp <;> omega)), HB0.out⟩
/-- What a valid record's numbers are. -/
structure Rc.Fit (r : Rc) : Prop where
  n0 : 0 ≤ r.s0 ∧ r.s0 ≤ 99
  n1 : 0 ≤ r.s1 ∧ r.s1 ≤ 999999999
  n2 : 1 ≤ r.s2 ∧ r.s2 ≤ 4
  n5 : 0 ≤ r.s5 ∧ r.s5 ≤ 12622780799
  n6 : 0 ≤ r.s6 ∧ r.s6 ≤ 1099511627776
  n7 : 0 ≤ r.s7 ∧ r.s7 ≤ 999999999
  n8 : 0 ≤ r.s8 ∧ r.s8 ≤ 99
  n10 : 0 ≤ r.s10 ∧ r.s10 ≤ 999
  la : dgB r.sa = true
  lb : dgB r.sb = true
theorem chk_fit {r : Rc} (h : chkR r = 0) : r.Fit := by
  unfold chkR chkV at h
  obtain ⟨c0, h⟩ := cz (by decide) h
  obtain ⟨c1, h⟩ := cz (by decide) h
  obtain ⟨c2, h⟩ := cz (by decide) h
  obtain ⟨c3, h⟩ := cz (by decide) h
  obtain ⟨c4, h⟩ := cz (by decide) h
  obtain ⟨-, h⟩ := cz (by decide) h
  obtain ⟨c5, h⟩ := cz (by decide) h
  obtain ⟨-, h⟩ := cz (by decide) h
  obtain ⟨c6, h⟩ := cz (by decide) h
  simp only [Bool.or_eq_false_iff, Bool.not_eq_false'] at c0 c1 c2 c3 c4 c5 c6
  have h0 := inb_of c0.1; have h1 := inb_of c0.2; have h2 := inb_of c1; have h5 := inb_of c3; have h6 := inb_of c4.1; have h7 := inb_of c5.1; have h8 := inb_of c5.2; have h10 := inb_of c6
  exact ⟨by omega, by omega, by omega, by omega, by omega, by omega, by omega, by omega, dg_num c2.1, dg_isT c2.2⟩
/-- The fields of a record. -/
def bodyR (r : Rc) : List Int := pdL r.s0.toNat 1 ++ pdL r.s1.toNat 5 ++ [kbR r] ++ phL r.sa ++ phL r.sb ++ pdL r.s5.toNat 6 ++ pdL r.s6.toNat 7 ++ pdL r.s7.toNat 5 ++ pdL r.s8.toNat 1 ++ pdL r.s10.toNat 2
theorem body_len (r : Rc) : (bodyR r).length = 44 := by
  simp only [bodyR, List.length_append, pd_len, phL, phT_len, List.length_cons, List.length_nil]
theorem kb_ran {r : Rc} (h : r.Fit) : 0 ≤ kbR r ∧ kbR r ≤ 255 := by
  have := h.n2
  unfold kbR
  cases r.b9 <;> cases r.b11 <;> simp <;> omega
/-- The bytes of a record. -/
def encP (r : Rc) : List Int := bodyR r ++ [smL (bodyR r)]
theorem appDec_own (z : Int) (v : Value) (base m N size : Nat) (L : List Int) (w : World) (hz : z = (size : Int)) (hv : Own w base v L) (hm : L.length = m) (h1 : 1 ≤ size) (h9 : size ≤ 9) (hN : N ≤ 9223372036854775807) (h6 : m ≤ 1000) (hbase : base ≤ w.heap.size) :
    Calls Try.prog 23 #[v, .int .i64 N, .int .i64 z] w (Gives w base (L ++ pdL N size)) := by
  subst hz; exact appDec_any v base m N size L w (by have h := hv.1; rw [hm] at h; exact apt_own h) hv.2 h1 h9 hN h6 hbase
set_option maxRecDepth 100000 in
set_option maxHeartbeats 8000000 in
theorem write_any (r : Rc) (hr : r.Fit) (w : World) : Calls Try.prog 25 #[.agg r.cells] w (Gives w w.heap.size (bodyR r)) := by
  obtain ⟨i0, hi0, hz0, hz1, hz2⟩ := info_parts byteInfo
  obtain ⟨L, hL, hL0, hx, hLs⟩ := rec_world w r
  obtain ⟨c0, c1, c2, c3, c4, c5, c6, c7, c8, c9, c10, c11⟩ := hx.cells
  have HK := Lib.hid (kind_any r (by have := hr.n2; omega) (by have := hr.n2; omega))
  have HKR := Lib.hid (kb_ran hr)
  have HL0 := Lib.hid hL0; have HX := Lib.hid hx; have HLS := Lib.hid hLs; have HF := Lib.hid hr
  have hn0 := hr.n0; have hn1 := hr.n1; have hn5 := hr.n5; have hn6 := hr.n6; have hn7 := hr.n7; have hn8 := hr.n8; have hn10 := hr.n10
  have hla := hr.la; have hlb := hr.lb
  have HBD : Hid (bodyR r = pdL r.s0.toNat 1 ++ pdL r.s1.toNat 5 ++ [kbR r] ++ phL r.sa ++ phL r.sb ++ pdL r.s5.toNat 6 ++ pdL r.s6.toNat 7 ++ pdL r.s7.toNat 5 ++ pdL r.s8.toNat 1 ++ pdL r.s10.toNat 2) := Lib.hid rfl
  obtain ⟨kb, hkb⟩ : ∃ kb, kbR r = kb := ⟨_, rfl⟩
  obtain ⟨BR, hBR⟩ : ∃ BR, bodyR r = BR := ⟨_, rfl⟩
  rw [hkb] at HK HKR HBD
  rw [hBR] at HBD ⊢
  obtain ⟨s0, s1, s2, sa, sb, s5, s6, s7, s8, b9, s10, b11⟩ := r
  unfold Rc.cells at HK hL ⊢
  simp only at hL HK HBD hn0 hn1 hn5 hn6 hn7 hn8 hn10 hla hlb c0 c1 c2 c3 c4 c5 c6 c7 c8 c9 c10 c11 ⊢
  obtain ⟨n0, rfl⟩ := Int.eq_ofNat_of_zero_le hn0.1
  obtain ⟨n1, rfl⟩ := Int.eq_ofNat_of_zero_le hn1.1
  obtain ⟨n5, rfl⟩ := Int.eq_ofNat_of_zero_le hn5.1
  obtain ⟨n6, rfl⟩ := Int.eq_ofNat_of_zero_le hn6.1
  obtain ⟨n7, rfl⟩ := Int.eq_ofNat_of_zero_le hn7.1
  obtain ⟨n8, rfl⟩ := Int.eq_ofNat_of_zero_le hn8.1
  obtain ⟨n10, rfl⟩ := Int.eq_ofNat_of_zero_le hn10.1
  simp only [Int.toNat_natCast] at HBD
  have HLA := Lib.hid hla; have HLB := Lib.hid hlb
  clear hx hL0 hr hkb hBR hla hlb hLs
  go_enter Try.func25, Try.ntmps25
  have HLN : Hid (([] ++ pdL n0 1 ++ pdL n1 5).length = 6) := Lib.hid (by simp only [List.length_append, pd_len, List.length_nil])
  go_wp2_with (first
    | (at_make; refine wpList_make_own _ rfl _ _ 22 rfl L.heap.size 5 i0 (.int .u8 0) 1 Try.underlying22 hi0 hz0 hz1 _ _ _ 45 rfl rfl rfl (by rw [hz2]; decide) (by unfold maxLen; decide) (Nat.le_refl _) ?_; intro w0 q1 q2; have HO0 : Hid (Own w0 L.heap.size (.slice (some ⟨L.heap.size, 0, none⟩) 0 45) []) := Lib.hid ⟨q1, by intro x hx; cases hx⟩; have HW0 : Hid (Below L.heap.size L w0) := Lib.hid ((Below.refl _ _).grown q2 (Nat.le_refl _) (fun _ h => by cases h)); clear q1 q2 c0 c1 c2 c3 c4 c5 c6 c7 c8 c9 c10 c11; have HY0 := Lib.hid (HX.out.below HW0.out (by have := HLS.out; omega)); obtain ⟨c0, c1, c2, c3, c4, c5, c6, c7, c8, c9, c10, c11⟩ := HY0.out.cells; simp only at c0 c1 c2 c3 c4 c5 c6 c7 c8 c9 c10 c11)
    | (go_at_call 23; (with_reducible refine (appDec_own 1 (.slice (some ⟨L.heap.size, 0, none⟩) 0 45) L.heap.size 0 n0 1 ([]) w0 rfl HO0.out (by simp only [List.length_append, pd_len, phL, phT_len, List.length_cons, List.length_nil]) (by decide) (by decide) (by omega) (by decide) HW0.out.size).mono ?_); rintro e w1 ⟨v1, rfl, ho, hb⟩; have HO1 := Lib.hid ho; have HW1 := Lib.hid (HW0.out.trans hb); clear ho hb c0 c1 c2 c3 c4 c5 c6 c7 c8 c9 c10 c11; have HY1 := Lib.hid (HX.out.below HW1.out (by have := HLS.out; omega)); obtain ⟨c0, c1, c2, c3, c4, c5, c6, c7, c8, c9, c10, c11⟩ := HY1.out.cells; simp only at c0 c1 c2 c3 c4 c5 c6 c7 c8 c9 c10 c11)
    | (go_at_call 23; (with_reducible refine (appDec_own 5 v1 L.heap.size 1 n1 5 ([] ++ pdL n0 1) w1 rfl HO1.out (by simp only [List.length_append, pd_len, phL, phT_len, List.length_cons, List.length_nil]) (by decide) (by decide) (by omega) (by decide) HW1.out.size).mono ?_); rintro e w2 ⟨v2, rfl, ho, hb⟩; have HO2 := Lib.hid ho; have HW2 := Lib.hid (HW1.out.trans hb); clear ho hb c0 c1 c2 c3 c4 c5 c6 c7 c8 c9 c10 c11; have HY2 := Lib.hid (HX.out.below HW2.out (by have := HLS.out; omega)); obtain ⟨c0, c1, c2, c3, c4, c5, c6, c7, c8, c9, c10, c11⟩ := HY2.out.cells; simp only at c0 c1 c2 c3 c4 c5 c6 c7 c8 c9 c10 c11)
    | (go_at_call 36; (with_reducible refine (HK.out _).mono ?_); rintro e wk ⟨rfl, hb⟩; have HOK := Lib.hid (HO2.out.below hb); have HWK := Lib.hid (HW2.out.trans (hb.mono HW2.out.size)); clear hb c0 c1 c2 c3 c4 c5 c6 c7 c8 c9 c10 c11; have HYK := Lib.hid (HX.out.below HWK.out (by have := HLS.out; omega)); obtain ⟨c0, c1, c2, c3, c4, c5, c6, c7, c8, c9, c10, c11⟩ := HYK.out.cells; simp only at c0 c1 c2 c3 c4 c5 c6 c7 c8 c9 c10 c11)
    | (at_builtin; refine wpList_append_own _ rfl (.tmp 13) (.tmp 16) 22 rfl L.heap.size 5 i0 (.int .u8 0) 1 1 Try.underlying22 hi0 hz0 hz1 hz2 rfl (by decide) v2 _ (C8 ([] ++ pdL n0 1 ++ pdL n1 5)) rfl (HOK.out.1.alloc _) ⟨wk.heap.size, 0, none⟩ 1 1 (C8 [kb]) rfl rfl (cell_one_new _ _ _) (C8_one _) (by rw [HLN.out]; unfold maxLen; decide) (by rw [HLN.out]; decide) (by have := HWK.out.size; simp; omega) ?_; intro v3 w3 q1 q2 _; have HO3 : Hid (Own w3 L.heap.size v3 ([] ++ pdL n0 1 ++ pdL n1 5 ++ [kb])) := Lib.hid (own_app q1 rfl rfl HOK.out.2 (by intro x hx; obtain rfl : x = kb := (by simpa using hx); exact HKR.out)); have HW3 : Hid (Below L.heap.size L w3) := Lib.hid ((HWK.out.alloc HWK.out.size _).grown q2 (by have := HWK.out.size; simp; omega) (fun g hg => (HOK.out.1.lt g hg).1)); clear q1 q2 c0 c1 c2 c3 c4 c5 c6 c7 c8 c9 c10 c11; have HY3 := Lib.hid (HX.out.below HW3.out (by have := HLS.out; omega)); obtain ⟨c0, c1, c2, c3, c4, c5, c6, c7, c8, c9, c10, c11⟩ := HY3.out.cells; simp only at c0 c1 c2 c3 c4 c5 c6 c7 c8 c9 c10 c11)
    | (go_at_call 37; (with_reducible refine (phone_any v3 L.heap.size 7 ([] ++ pdL n0 1 ++ pdL n1 5 ++ [kb]) sa w3 HO3.out (by simp only [List.length_append, pd_len, phL, phT_len, List.length_cons, List.length_nil]) HLA.out (by decide) HW3.out.size).mono ?_); rintro e w4 ⟨v4, rfl, ho, hb⟩; have HO4 := Lib.hid ho; have HW4 := Lib.hid (HW3.out.trans hb); clear ho hb c0 c1 c2 c3 c4 c5 c6 c7 c8 c9 c10 c11; have HY4 := Lib.hid (HX.out.below HW4.out (by have := HLS.out; omega)); obtain ⟨c0, c1, c2, c3, c4, c5, c6, c7, c8, c9, c10, c11⟩ := HY4.out.cells; simp only at c0 c1 c2 c3 c4 c5 c6 c7 c8 c9 c10 c11)
    | (go_at_call 37; (with_reducible refine (phone_any v4 L.heap.size 15 ([] ++ pdL n0 1 ++ pdL n1 5 ++ [kb] ++ phL sa) sb w4 HO4.out (by simp only [List.length_append, pd_len, phL, phT_len, List.length_cons, List.length_nil]) HLB.out (by decide) HW4.out.size).mono ?_); rintro e w5 ⟨v5, rfl, ho, hb⟩; have HO5 := Lib.hid ho; have HW5 := Lib.hid (HW4.out.trans hb); clear ho hb c0 c1 c2 c3 c4 c5 c6 c7 c8 c9 c10 c11; have HY5 := Lib.hid (HX.out.below HW5.out (by have := HLS.out; omega)); obtain ⟨c0, c1, c2, c3, c4, c5, c6, c7, c8, c9, c10, c11⟩ := HY5.out.cells; simp only at c0 c1 c2 c3 c4 c5 c6 c7 c8 c9 c10 c11)
    | (go_at_call 23; (with_reducible refine (appDec_own 6 v5 L.heap.size 23 n5 6 ([] ++ pdL n0 1 ++ pdL n1 5 ++ [kb] ++ phL sa ++ phL sb) w5 rfl HO5.out (by simp only [List.length_append, pd_len, phL, phT_len, List.length_cons, List.length_nil]) (by decide) (by decide) (by omega) (by decide) HW5.out.size).mono ?_); rintro e w6 ⟨v6, rfl, ho, hb⟩; have HO6 := Lib.hid ho; have HW6 := Lib.hid (HW5.out.trans hb); clear ho hb c0 c1 c2 c3 c4 c5 c6 c7 c8 c9 c10 c11; have HY6 := Lib.hid (HX.out.below HW6.out (by have := HLS.out; omega)); obtain ⟨c0, c1, c2, c3, c4, c5, c6, c7, c8, c9, c10, c11⟩ := HY6.out.cells; simp only at c0 c1 c2 c3 c4 c5 c6 c7 c8 c9 c10 c11)
    | (go_at_call 23; (with_reducible refine (appDec_own 7 v6 L.heap.size 29 n6 7 ([] ++ pdL n0 1 ++ pdL n1 5 ++ [kb] ++ phL sa ++ phL sb ++ pdL n5 6) w6 rfl HO6.out (by simp only [List.length_append, pd_len, phL, phT_len, List.length_cons, List.length_nil]) (by decide) (by decide) (by omega) (by decide) HW6.out.size).mono ?_); rintro e w7 ⟨v7, rfl, ho, hb⟩; have HO7 := Lib.hid ho; have HW7 := Lib.hid (HW6.out.trans hb); clear ho hb c0 c1 c2 c3 c4 c5 c6 c7 c8 c9 c10 c11; have HY7 := Lib.hid (HX.out.below HW7.out (by have := HLS.out; omega)); obtain ⟨c0, c1, c2, c3, c4, c5, c6, c7, c8, c9, c10, c11⟩ := HY7.out.cells; simp only at c0 c1 c2 c3 c4 c5 c6 c7 c8 c9 c10 c11)
    | (go_at_call 23; (with_reducible refine (appDec_own 5 v7 L.heap.size 36 n7 5 ([] ++ pdL n0 1 ++ pdL n1 5 ++ [kb] ++ phL sa ++ phL sb ++ pdL n5 6 ++ pdL n6 7) w7 rfl HO7.out (by simp only [List.length_append, pd_len, phL, phT_len, List.length_cons, List.length_nil]) (by decide) (by decide) (by omega) (by decide) HW7.out.size).mono ?_); rintro e w8 ⟨v8, rfl, ho, hb⟩; have HO8 := Lib.hid ho; have HW8 := Lib.hid (HW7.out.trans hb); clear ho hb c0 c1 c2 c3 c4 c5 c6 c7 c8 c9 c10 c11; have HY8 := Lib.hid (HX.out.below HW8.out (by have := HLS.out; omega)); obtain ⟨c0, c1, c2, c3, c4, c5, c6, c7, c8, c9, c10, c11⟩ := HY8.out.cells; simp only at c0 c1 c2 c3 c4 c5 c6 c7 c8 c9 c10 c11)
    | (go_at_call 23; (with_reducible refine (appDec_own 1 v8 L.heap.size 41 n8 1 ([] ++ pdL n0 1 ++ pdL n1 5 ++ [kb] ++ phL sa ++ phL sb ++ pdL n5 6 ++ pdL n6 7 ++ pdL n7 5) w8 rfl HO8.out (by simp only [List.length_append, pd_len, phL, phT_len, List.length_cons, List.length_nil]) (by decide) (by decide) (by omega) (by decide) HW8.out.size).mono ?_); rintro e w9 ⟨v9, rfl, ho, hb⟩; have HO9 := Lib.hid ho; have HW9 := Lib.hid (HW8.out.trans hb); clear ho hb c0 c1 c2 c3 c4 c5 c6 c7 c8 c9 c10 c11; have HY9 := Lib.hid (HX.out.below HW9.out (by have := HLS.out; omega)); obtain ⟨c0, c1, c2, c3, c4, c5, c6, c7, c8, c9, c10, c11⟩ := HY9.out.cells; simp only at c0 c1 c2 c3 c4 c5 c6 c7 c8 c9 c10 c11)
    | (go_at_call 23; (with_reducible refine (appDec_own 2 v9 L.heap.size 42 n10 2 ([] ++ pdL n0 1 ++ pdL n1 5 ++ [kb] ++ phL sa ++ phL sb ++ pdL n5 6 ++ pdL n6 7 ++ pdL n7 5 ++ pdL n8 1) w9 rfl HO9.out (by simp only [List.length_append, pd_len, phL, phT_len, List.length_cons, List.length_nil]) (by decide) (by decide) (by omega) (by decide) HW9.out.size).mono ?_); rintro e w10 ⟨v10, rfl, ho, hb⟩; have HO10 := Lib.hid ho; have HW10 := Lib.hid (HW9.out.trans hb); clear ho hb c0 c1 c2 c3 c4 c5 c6 c7 c8 c9 c10 c11; have HY10 := Lib.hid (HX.out.below HW10.out (by have := HLS.out; omega)); obtain ⟨c0, c1, c2, c3, c4, c5, c6, c7, c8, c9, c10, c11⟩ := HY10.out.cells; simp only at c0 c1 c2 c3 c4 c5 c6 c7 c8 c9 c10 c11))
  go_ret
  exact ⟨_, rfl, by have h := HO10.out; rw [List.nil_append] at h; rw [HBD.out]; exact h.mono HL0.out.size, HL0.out.trans (HW10.out.mono HL0.out.size)⟩
end Go.Proofs.Ytblhpbheejemnaa
