/- Walks of the laws PackedDecimals and PackedEncodes. -/
import Derived.Test.YtblhpbheejemnaaPkA
namespace Go.Proofs.Ytblhpbheejemnaa
open Go.RowKit

theorem walkPackedEncodes (r : Rc) (w : World) : Calls Try.prog 4 #[.agg r.cells] w fun e w' => e = .returned (.bool true) ∧ Below w.heap.size w w' := by
  have HAL := Lib.hid alive_any
  have HSH := Lib.hid (short_any r)
  obtain ⟨L, hL, hL0, hx, hLs⟩ := rec_world w r
  obtain ⟨c0, c1, c2, c3, c4, c5, c6, c7, c8, c9, c10, c11⟩ := hx.cells
  have HL0 := Lib.hid hL0; have HX := Lib.hid hx; have HLS := Lib.hid hLs
  by_cases hs : shR r = true
  · obtain ⟨ha, hb⟩ := shR_of hs
    rw [hs] at HSH
    have HEN := Lib.hid (encode_any r ha hb)
    have HRE := Lib.hid (refEncode_any r ha hb)
    obtain ⟨x, hx0⟩ : ∃ x, chkR r = x := ⟨_, rfl⟩
    obtain ⟨B, hB⟩ : ∃ B, (if chkR r = 0 then encP r else []) = B := ⟨_, rfl⟩
    unfold EncOut at HEN HRE
    rw [hB, hx0] at HEN HRE
    obtain ⟨s0, s1, s2, sa, sb, s5, s6, s7, s8, b9, s10, b11⟩ := r
    unfold Rc.cells at HSH HEN HRE hL ⊢
    simp only at hL HSH HEN HRE c0 c1 c2 c3 c4 c5 c6 c7 c8 c9 c10 c11 ⊢
    clear hx hL0 ha hb hs hB hx0 hLs
    go_enter Try.func4, Try.ntmps4
    go_wp2_with (first
      | (go_at_call 13; (with_reducible refine (HSH.out _).mono ?_); rintro e w1 ⟨rfl, hb1⟩; have HB1 := Lib.hid hb1; have HX1 := Lib.hid (HX.out.below hb1 (by have := HLS.out; omega)); clear hb1 c0 c1 c2 c3 c4 c5 c6 c7 c8 c9 c10 c11; obtain ⟨c0, c1, c2, c3, c4, c5, c6, c7, c8, c9, c10, c11⟩ := HX1.out.cells; simp only at c0 c1 c2 c3 c4 c5 c6 c7 c8 c9 c10 c11)
      | (go_at_call 14; (with_reducible refine (HEN.out _).mono ?_); rintro e w2 ⟨v2, rfl, ho2, hb2⟩; obtain ⟨A2, m2, q2, rfl, -, y2⟩ := ho2.bytm; have HY2 := Lib.hid y2; have HB2 := Lib.hid (HB1.out.trans (hb2.mono HB1.out.size)); have HX2 := Lib.hid (HX1.out.below hb2 (by have := HLS.out; have := HB1.out.size; omega)); clear ho2 hb2 y2 c0 c1 c2 c3 c4 c5 c6 c7 c8 c9 c10 c11; obtain ⟨c0, c1, c2, c3, c4, c5, c6, c7, c8, c9, c10, c11⟩ := HX2.out.cells; simp only at c0 c1 c2 c3 c4 c5 c6 c7 c8 c9 c10 c11)
      | (go_at_call 15; (with_reducible refine (HRE.out _).mono ?_); rintro e w3 ⟨v3, rfl, ho3, hb3⟩; obtain ⟨A3, m3, q3, rfl, -, y3⟩ := ho3.bytm; have cv2 := byt_conv (HY2.out.below hb3); have cv3 := byt_conv y3; have HB3 := Lib.hid (HB2.out.trans (hb3.mono HB2.out.size)); clear ho3 hb3 y3 c0 c1 c2 c3 c4 c5 c6 c7 c8 c9 c10 c11)
      | (go_at_call 8; (with_reducible refine (HAL.out _).mono ?_); rintro e w4 ⟨rfl, hb4⟩; have HB4 := Lib.hid (HB3.out.trans (hb4.mono HB3.out.size)); clear hb4))
    go_ret
    exact ⟨rfl, HL0.out.trans (HB4.out.mono HL0.out.size)⟩
  · rw [Bool.not_eq_true] at hs
    rw [hs] at HSH
    obtain ⟨s0, s1, s2, sa, sb, s5, s6, s7, s8, b9, s10, b11⟩ := r
    unfold Rc.cells at HSH hL ⊢
    simp only at hL HSH c0 c1 c2 c3 c4 c5 c6 c7 c8 c9 c10 c11 ⊢
    clear hx hL0 hs hLs
    go_enter Try.func4, Try.ntmps4
    go_wp2_with (first
      | (go_at_call 13; (with_reducible refine (HSH.out _).mono ?_); rintro e w1 ⟨rfl, hb1⟩; have HB1 := Lib.hid hb1; clear hb1)
      | (go_at_call 8; (with_reducible refine (HAL.out _).mono ?_); rintro e w4 ⟨rfl, hb4⟩; have HB4 := Lib.hid (HB1.out.trans (hb4.mono HB1.out.size)); clear hb4))
    go_ret
    exact ⟨rfl, HL0.out.trans (HB4.out.mono HL0.out.size)⟩
theorem decimal_is (A : Option Addr) (m c : Nat) (l : List Int) (w : World) (hA : Byt w A m c l) {x y : Int} (h : deL l = (x, y)) :
    Calls Try.prog 11 #[.slice A m c] w fun e w' => e = .returned (.tuple #[.int .i64 x, .int .i64 y]) ∧ w = w' := by
  have := decimal_any A m c l w hA
  rw [h] at this
  exact this
set_option maxRecDepth 100000 in
set_option maxHeartbeats 8000000 in
theorem walkPackedDecimals (A : Option Addr) (m c : Nat) (zs : List Int) (n size : Int) (w : World) (hr : IsRow .u8 w A m c zs) (hn : (Lit.int .i64 n).wf = true) :
    Calls Try.prog 3 #[.slice A m c, .int .i64 n, .int .i64 size] w fun e w' => e = .returned (.bool true) ∧ Below w.heap.size w w' := by
  have HAL := Lib.hid alive_any
  have hA := byt_of_row hr
  obtain ⟨hn1, hn2⟩ := i64_bounds hn
  by_cases h100 : m ≤ 100
  · have d1 : decide (100 < (m : Int)) = false := decide_eq_false (by omega)
    obtain ⟨l, hl⟩ : ∃ l, zs.take m = l := ⟨_, rfl⟩
    rw [hl] at hA
    have hlen := hA.len
    have HPU := Lib.hid (put_any A m c l n size w hA (by omega) hn1 hn2)
    have HRP := Lib.hid (fun W (h : Below w.heap.size w W) => refPut_any A m c l n size W (hA.below h) (by omega) hn1 hn2)
    have HDE := Lib.hid (fun W (h : Below w.heap.size w W) => decimal_any A m c l W (hA.below h))
    have HRD := Lib.hid (fun W (h : Below w.heap.size w W) => refDecimal_any A m c l W (hA.below h))
    obtain ⟨dk, hdk⟩ : ∃ dk, (deL l).1 = dk := ⟨_, rfl⟩
    obtain ⟨dg, hdg⟩ : ∃ dg, (deL l).2 = dg := ⟨_, rfl⟩
    rw [hdk, hdg] at HDE HRD
    unfold PutOut at HPU HRP
    by_cases hf : fitB n size = true
    · simp only [if_pos hf] at HPU HRP
      obtain ⟨f1, f2, f3, f4⟩ := fit_iff.1 hf
      obtain ⟨s, rfl⟩ := Int.eq_ofNat_of_zero_le (show 0 ≤ size by omega)
      obtain ⟨N, rfl⟩ := Int.eq_ofNat_of_zero_le f3
      have hN : N < 100 ^ s := by
        have e : (100 : Int) ^ (s : Int).toNat = ((100 ^ s : Nat) : Int) := by simp
        rw [e] at f4; omega
      simp only [Int.toNat_natCast] at HPU HRP
      have HDP := Lib.hid (de_pd (n := N) (k := s) (by omega) (by omega) hN)
      obtain ⟨M, hM⟩ : ∃ M, m + s = M := ⟨_, rfl⟩
      have HTL : Hid ((l ++ pdL N s).length = M) := Lib.hid (by rw [List.length_append, pd_len, hlen, hM])
      have HDR : Hid ((l ++ pdL N s).drop m = pdL N s) := Lib.hid (by rw [← hlen]; exact List.drop_left)
      obtain ⟨X, hX⟩ : ∃ X, l ++ pdL N s = X := ⟨_, rfl⟩
      rw [hX] at HPU HRP HTL HDR
      have hmM : m ≤ M := by omega
      have hmMi : (m : Int) ≤ (M : Int) := by omega
      have hm0 : (0 : Int) ≤ (m : Int) := by omega
      have hM1 : 0 < M := by omega
      have hmlt : m < M := by omega
      clear hr hA hlen hn hdk hdg hl hf f1 f2 f3 f4 hN hM hX
      go_enter Try.func3, Try.ntmps3
      go_wp2_with (first
        | (go_at_call 9; (with_reducible refine HPU.out.mono ?_); rintro e w1 ⟨v1, rfl, ho1, hb1⟩; obtain ⟨g1, q1, rfl, -, hg1, hc1⟩ := own_some ho1 (by rw [HTL.out]; exact hM1); obtain ⟨A1, m1, qq, hv, -, y1⟩ := ho1.bytm; rw [HTL.out] at hc1; have hqm : ¬ (q1 = m) := (by omega); have HY1 : Hid (Byt w1 (some ⟨g1, 0, none⟩) M q1 X) := Lib.hid (by injection hv with hv1 hv2 hv3; subst hv1 hv2 hv3; rw [HTL.out] at y1; exact y1); have HB1 := Lib.hid hb1; have htl := HTL.out; clear ho1 hb1 hv y1; rw [htl]; clear htl)
        | (go_at_call 10; (with_reducible refine (HRP.out _ HB1.out).mono ?_); rintro e w2 ⟨v2, rfl, ho2, hb2⟩; obtain ⟨A2, m2, q2, rfl, -, y2⟩ := ho2.bytm; have HY2 := Lib.hid y2; have HB2 := Lib.hid (HB1.out.trans (hb2.mono HB1.out.size)); have HY1 := Lib.hid (HY1.out.below hb2); clear ho2 hb2 y2)
        | (go_at_call 11; (with_reducible refine (HDE.out _ HB2.out).mono ?_); rintro e w3 ⟨rfl, rfl⟩)
        | (go_at_call 12; (with_reducible refine (HRD.out _ HB2.out).mono ?_); rintro e w4 ⟨rfl, hb4⟩; have HB4 := Lib.hid (HB2.out.trans (hb4.mono HB2.out.size)); have HY4 := Lib.hid (HY1.out.below hb4); have cv1 := byt_conv HY4.out; have cv2 := byt_conv (HY2.out.below hb4); clear hb4)
        | (go_at_call 11; (with_reducible refine (decimal_is (some ⟨g1, m, none⟩) (M - m) (q1 - m) (pdL N s) w4 (by have h := byt_drop HY4.out m hmM; rw [Nat.zero_add, HDR.out] at h; exact h) HDP.out).mono ?_); rintro e w5 ⟨rfl, rfl⟩)
        | (go_at_call 8; (with_reducible refine (HAL.out _).mono ?_); rintro e w6 ⟨rfl, hb6⟩; have HB6 := Lib.hid (HB4.out.trans (hb6.mono HB4.out.size)); clear hb6))
      go_ret
      exact ⟨rfl, HB6.out⟩
    · rw [Bool.not_eq_true] at hf
      simp only [hf, Bool.false_eq_true, if_false] at HPU HRP
      clear hr hA hlen hn hdk hdg hl hf
      go_enter Try.func3, Try.ntmps3
      go_wp2_with (first
        | (go_at_call 9; (with_reducible refine HPU.out.mono ?_); rintro e w1 ⟨v1, rfl, ho1, hb1⟩; obtain ⟨A1, m1, q1, rfl, -, y1⟩ := ho1.bytm; have HY1 := Lib.hid y1; have HB1 := Lib.hid hb1; clear ho1 hb1 y1)
        | (go_at_call 10; (with_reducible refine (HRP.out _ HB1.out).mono ?_); rintro e w2 ⟨v2, rfl, ho2, hb2⟩; obtain ⟨A2, m2, q2, rfl, -, y2⟩ := ho2.bytm; have HY2 := Lib.hid y2; have HB2 := Lib.hid (HB1.out.trans (hb2.mono HB1.out.size)); have HY1 := Lib.hid (HY1.out.below hb2); clear ho2 hb2 y2)
        | (go_at_call 11; (with_reducible refine (HDE.out _ HB2.out).mono ?_); rintro e w3 ⟨rfl, rfl⟩)
        | (go_at_call 12; (with_reducible refine (HRD.out _ HB2.out).mono ?_); rintro e w4 ⟨rfl, hb4⟩; have HB4 := Lib.hid (HB2.out.trans (hb4.mono HB2.out.size)); have cv1 := byt_conv (HY1.out.below hb4); have cv2 := byt_conv (HY2.out.below hb4); clear hb4)
        | (go_at_call 8; (with_reducible refine (HAL.out _).mono ?_); rintro e w5 ⟨rfl, hb5⟩; have HB5 := Lib.hid (HB4.out.trans (hb5.mono HB4.out.size)); clear hb5))
      go_ret
      exact ⟨rfl, HB5.out⟩
  · have d1 : decide (100 < (m : Int)) = true := decide_eq_true (by omega)
    clear hr hA hn
    go_enter Try.func3, Try.ntmps3
    go_wp2_with (go_at_call 8; (with_reducible refine (HAL.out _).mono ?_); rintro e w5 ⟨rfl, hb5⟩)
    go_ret
    exact ⟨rfl, hb5⟩
end Go.Proofs.Ytblhpbheejemnaa
