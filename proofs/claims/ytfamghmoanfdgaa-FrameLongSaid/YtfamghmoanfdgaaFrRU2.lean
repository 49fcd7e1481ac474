/- Walks: Unwrap of the reference, when the frame is whole. -/
import Derived.Test.YtfamghmoanfdgaaRows
import Derived.Test.YtfamghmoanfdgaaFrRU
import Derived.Deep.Cut
namespace Go.Proofs.Ytfamghmoanfdgaa
open Go.RowKit

set_option maxRecDepth 100000 in
set_option maxHeartbeats 8000000 in
theorem refUnwrap_full {A : Option Addr} {n c sz : Nat} {l R : List Int} {w : World} (hA : Byt w A n c l) (hn : n ≤ 100000000) (hS : numR (l, 0) = ((sz : Int), (R, 0))) (hsz : sz ≤ 1048576) (hsh : ¬ R.length < 4 + sz) :
    Calls Try.prog 21 #[.slice A n c] w (UnwP l w) := by
  obtain ⟨i0, hi0, hz0, hz1, hz2⟩ := info_parts byteInfo
  have hN := refNumber_any hA hn
  have hle := numR_len (l, 0)
  have hl := hA.len
  have hcr : cutR l = if de4 R = fnv ((R.drop 4).take sz) then ((R.drop 4).take sz, (R.drop (4 + sz), 0)) else ([], ([], 4)) := by
    have h1 : ¬ ((sz : Int) < 0) := by omega
    have h2 : ¬ (1048576 < (sz : Int)) := by omega
    have h3 : ¬ (((R.length : Nat) : Int) < 4 + (sz : Int)) := by omega
    simp only [cutR, hS, if_true, h1, h2, h3, if_false, Int.toNat_natCast]
  unfold NumP at hN
  rw [hS] at hN hle
  simp only at hN hle
  have hszi : (sz : Int) ≤ 1048576 := by omega
  have HN := Lib.hid hN; have HSH := Lib.hid hsh
  have HRL : Hid (R.length ≤ 100000000) := Lib.hid (by omega)
  obtain ⟨F, hF⟩ : ∃ F, fnv ((R.drop 4).take sz) = F := ⟨_, rfl⟩
  rw [hF] at hcr
  have HF := Lib.hid hF
  have HPL : Hid (((R.drop 4).take sz).length = sz) := Lib.hid (by rw [List.length_take, List.length_drop]; omega)
  have HQL : Hid ((R.drop (4 + sz)).length = R.length - (4 + sz)) := Lib.hid (by rw [List.length_drop])
  clear hN hS hA hn hsh hsz hle hl
  go_enter Try.func21, Try.ntmps21
  go_upto_region 10 with (go_at_call 29; refine HN.out.mono ?_; rintro e w1 ⟨v, rfl, ho, hb1⟩; obtain ⟨A2, m2, c2, rfl, hm2, y2⟩ := ho.bytm; have hge : ¬ ((m2 : Int) < 4 + (sz : Int)) := (by have := hm2.out; have := HSH.out; omega); have HY := Lib.hid y2; clear ho y2)
  have hmx : c2 ≤ maxLen := HY.out.max
  have hcap : m2 ≤ c2 := HY.out.cap
  have hm28 : m2 ≤ 100000000 := by have := hm2.out; have := HRL.out; omega
  have hge4 : 4 + sz ≤ m2 := by omega
  obtain ⟨b, off, x9, rfl, -⟩ := HY.out.at (k := 0) (by omega)
  obtain ⟨x0, x1, x2, x3, r0, r1, r2, r3, hde, hx⟩ := four_at HY.out (by omega)
  have HX := Lib.hid hx; have HB1 := Lib.hid hb1
  rw [hde] at hcr
  have i0' : (0 : Int) < (m2 : Int) := by omega
  have i1' : (1 : Int) < (m2 : Int) := by omega
  have i2' : (2 : Int) < (m2 : Int) := by omega
  have i3' : (3 : Int) < (m2 : Int) := by omega
  clear hx hb1 hde
  by_cases hDF : x0 * 16777216 + x1 * 65536 + x2 * 256 + x3 = (F : Int)
  · have hne : ((F : Int) != x0 * 16777216 + x1 * 65536 + x2 * 256 + x3) = false := by simp [hDF]
    rw [if_pos hDF] at hcr
    have HC := Lib.hid hcr; clear hcr hDF
    by_cases hc4 : c2 = 4
    · have hcs : c2 = 4 + sz := by omega
      have hP : Byt w1 (some ⟨b, off, none⟩) (4 + sz - 4) 0 ((R.drop 4).take sz) := by
        have e : (R.drop 4).take sz = [] := List.length_eq_zero_iff.1 (by rw [HPL.out]; omega)
        rw [e, show 4 + sz - 4 = 0 by omega]; exact byt_none (by unfold maxLen; omega) (by intro h; cases h)
      have hQ : Byt w1 (some ⟨b, off, none⟩) (m2 - (4 + sz)) (4 - (4 + sz)) (R.drop (4 + sz)) := by
        have e : R.drop (4 + sz) = [] := List.length_eq_zero_iff.1 (by rw [HQL.out]; have := hm2.out; omega)
        rw [e, show m2 - (4 + sz) = 0 by omega]; exact byt_none (by unfold maxLen; omega) (by intro h; cases h)
      have HP := Lib.hid hP; have HQ := Lib.hid hQ
      have HPL8 : Hid (((R.drop 4).take sz).length = 4 + sz - 4) := Lib.hid (by rw [HPL.out]; omega)
      have HQL9 : Hid ((R.drop (4 + sz)).length = m2 - (4 + sz)) := Lib.hid (by rw [HQL.out, hm2.out])
      clear hP hQ hmx
      obtain ⟨L1, hL1, hn1⟩ := nil_world w1
      have HL1 := Lib.hid hn1; clear hn1
      go_wp2_with (at_builtin; refine wpList_append_has rfl (.tmp 32) (.tmp 36) 22 rfl w1.heap.size 5 i0 (.int .u8 0) 1 Try.underlying22 hi0 hz0 hz1 hz2 rfl _ _ _ rfl HL1.out.2.1 _ _ _ _ rfl (HP.out.below HL1.out.1).has (by unfold maxLen; omega) (by omega) (by have := HL1.out.2.2; omega) ?_; intro v8 w2 hown2 hg2; have hb2 : Below w1.heap.size w1 w2 := (HL1.out.1.grown hg2 (by have := HL1.out.2.2; omega) (fun g hg' => (World.ownsRow.lt HL1.out.2.1 g hg').1)); have hO8 := own_of_nil hown2 HPL8.out HP.out.ran; obtain ⟨A8, m8, c8, rfl, hm8, y8⟩ := hO8.bytm; have HO8 := Lib.hid hO8; have HB2 := Lib.hid hb2; obtain ⟨q0, q1, q2, q3⟩ := HX.out w2 hb2; have HS := Lib.hid (fun (w' : World) (hw : Below w2.heap.size w2 w') => refSum_any (y8.below hw) (by have := hm8.out; have := HPL.out; omega)); clear hown2 hg2 hb2 y8 hO8)
      go_quiet (fail)
      go_wp2_with (first | (go_at_call 12; refine (HS.out _ (below_drawn (Below.refl _ _) _)).mono ?_; rintro e w3 ⟨rfl, hw3⟩; have hb3 : Below w2.heap.size w2 w3 := hw3 ▸ below_drawn (Below.refl _ _) _; have HB3 := Lib.hid (HB2.out.trans (hb3.mono HB2.out.size)); have HO8 := Lib.hid (HO8.out.below hb3); obtain ⟨L3, hL3, hn3⟩ := nil_world w3; have HL3 := Lib.hid hn3; clear hw3 hb3 hn3) | (at_builtin; refine wpList_append_has rfl (.tmp 65) (.tmp 69) 22 rfl w3.heap.size 5 i0 (.int .u8 0) 1 Try.underlying22 hi0 hz0 hz1 hz2 rfl _ _ _ rfl HL3.out.2.1 _ _ _ _ rfl (HQ.out.below (HB3.out.trans (HL3.out.1.mono HB3.out.size))).has (by unfold maxLen; omega) (by omega) (by have := HL3.out.2.2; omega) ?_; intro v9 w5 hown5 hg5; have hb5 : Below w3.heap.size w3 w5 := (HL3.out.1.grown hg5 (by have := HL3.out.2.2; omega) (fun g hg' => (World.ownsRow.lt HL3.out.2.1 g hg').1)); have HO9 := Lib.hid (own_of_nil hown5 HQL9.out HQ.out.ran); have HB5 := Lib.hid hb5; clear hown5 hg5 hb5))
      go_ret3
      exact UnwP.yes HC.out rfl ((HO8.out.below HB5.out).mono HB1.out.size) (HO9.out.mono (Nat.le_trans HB1.out.size HB3.out.size)) (HB1.out.trans ((HB3.out.trans (HB5.out.mono HB3.out.size)).mono HB1.out.size))
    · by_cases hcs : c2 = 4 + sz
      · have hP : Byt w1 (some ⟨b, off + 4, none⟩) (4 + sz - 4) (sz) ((R.drop 4).take sz) := by
          rw [show 4 + sz - 4 = sz by omega]; exact by have h := byt_take (byt_drop HY.out 4 (by omega)) sz (by omega); rwa [show c2 - 4 = sz by omega] at h
        have hQ : Byt w1 (some ⟨b, off, none⟩) (m2 - (4 + sz)) (4 + sz - (4 + sz)) (R.drop (4 + sz)) := by
          have e : R.drop (4 + sz) = [] := List.length_eq_zero_iff.1 (by rw [HQL.out]; have := hm2.out; omega)
          rw [e, show m2 - (4 + sz) = 0 by omega]; exact byt_none (by unfold maxLen; omega) (by intro h; cases h)
        have HP := Lib.hid hP; have HQ := Lib.hid hQ
        have HPL8 : Hid (((R.drop 4).take sz).length = 4 + sz - 4) := Lib.hid (by rw [HPL.out]; omega)
        have HQL9 : Hid ((R.drop (4 + sz)).length = m2 - (4 + sz)) := Lib.hid (by rw [HQL.out, hm2.out])
        clear hP hQ hmx
        obtain ⟨L1, hL1, hn1⟩ := nil_world w1
        have HL1 := Lib.hid hn1; clear hn1
        go_wp2_with (at_builtin; refine wpList_append_has rfl (.tmp 32) (.tmp 36) 22 rfl w1.heap.size 5 i0 (.int .u8 0) 1 Try.underlying22 hi0 hz0 hz1 hz2 rfl _ _ _ rfl HL1.out.2.1 _ _ _ _ rfl (HP.out.below HL1.out.1).has (by unfold maxLen; omega) (by omega) (by have := HL1.out.2.2; omega) ?_; intro v8 w2 hown2 hg2; have hb2 : Below w1.heap.size w1 w2 := (HL1.out.1.grown hg2 (by have := HL1.out.2.2; omega) (fun g hg' => (World.ownsRow.lt HL1.out.2.1 g hg').1)); have hO8 := own_of_nil hown2 HPL8.out HP.out.ran; obtain ⟨A8, m8, c8, rfl, hm8, y8⟩ := hO8.bytm; have HO8 := Lib.hid hO8; have HB2 := Lib.hid hb2; obtain ⟨q0, q1, q2, q3⟩ := HX.out w2 hb2; have HS := Lib.hid (fun (w' : World) (hw : Below w2.heap.size w2 w') => refSum_any (y8.below hw) (by have := hm8.out; have := HPL.out; omega)); clear hown2 hg2 hb2 y8 hO8)
        go_quiet (fail)
        go_wp2_with (first | (go_at_call 12; refine (HS.out _ (below_drawn (Below.refl _ _) _)).mono ?_; rintro e w3 ⟨rfl, hw3⟩; have hb3 : Below w2.heap.size w2 w3 := hw3 ▸ below_drawn (Below.refl _ _) _; have HB3 := Lib.hid (HB2.out.trans (hb3.mono HB2.out.size)); have HO8 := Lib.hid (HO8.out.below hb3); obtain ⟨L3, hL3, hn3⟩ := nil_world w3; have HL3 := Lib.hid hn3; clear hw3 hb3 hn3) | (at_builtin; refine wpList_append_has rfl (.tmp 65) (.tmp 69) 22 rfl w3.heap.size 5 i0 (.int .u8 0) 1 Try.underlying22 hi0 hz0 hz1 hz2 rfl _ _ _ rfl HL3.out.2.1 _ _ _ _ rfl (HQ.out.below (HB3.out.trans (HL3.out.1.mono HB3.out.size))).has (by unfold maxLen; omega) (by omega) (by have := HL3.out.2.2; omega) ?_; intro v9 w5 hown5 hg5; have hb5 : Below w3.heap.size w3 w5 := (HL3.out.1.grown hg5 (by have := HL3.out.2.2; omega) (fun g hg' => (World.ownsRow.lt HL3.out.2.1 g hg').1)); have HO9 := Lib.hid (own_of_nil hown5 HQL9.out HQ.out.ran); have HB5 := Lib.hid hb5; clear hown5 hg5 hb5))
        go_ret3
        exact UnwP.yes HC.out rfl ((HO8.out.below HB5.out).mono HB1.out.size) (HO9.out.mono (Nat.le_trans HB1.out.size HB3.out.size)) (HB1.out.trans ((HB3.out.trans (HB5.out.mono HB3.out.size)).mono HB1.out.size))
      · have hP : Byt w1 (some ⟨b, off + 4, none⟩) (4 + sz - 4) (c2 - 4) ((R.drop 4).take sz) := by
          rw [show 4 + sz - 4 = sz by omega]; exact byt_take (byt_drop HY.out 4 (by omega)) sz (by omega)
        have hQ : Byt w1 (some ⟨b, off + (4 + sz), none⟩) (m2 - (4 + sz)) (c2 - (4 + sz)) (R.drop (4 + sz)) := byt_drop HY.out (4 + sz) (by omega)
        have HP := Lib.hid hP; have HQ := Lib.hid hQ
        have HPL8 : Hid (((R.drop 4).take sz).length = 4 + sz - 4) := Lib.hid (by rw [HPL.out]; omega)
        have HQL9 : Hid ((R.drop (4 + sz)).length = m2 - (4 + sz)) := Lib.hid (by rw [HQL.out, hm2.out])
        clear hP hQ hmx
        obtain ⟨L1, hL1, hn1⟩ := nil_world w1
        have HL1 := Lib.hid hn1; clear hn1
        go_wp2_with (at_builtin; refine wpList_append_has rfl (.tmp 32) (.tmp 36) 22 rfl w1.heap.size 5 i0 (.int .u8 0) 1 Try.underlying22 hi0 hz0 hz1 hz2 rfl _ _ _ rfl HL1.out.2.1 _ _ _ _ rfl (HP.out.below HL1.out.1).has (by unfold maxLen; omega) (by omega) (by have := HL1.out.2.2; omega) ?_; intro v8 w2 hown2 hg2; have hb2 : Below w1.heap.size w1 w2 := (HL1.out.1.grown hg2 (by have := HL1.out.2.2; omega) (fun g hg' => (World.ownsRow.lt HL1.out.2.1 g hg').1)); have hO8 := own_of_nil hown2 HPL8.out HP.out.ran; obtain ⟨A8, m8, c8, rfl, hm8, y8⟩ := hO8.bytm; have HO8 := Lib.hid hO8; have HB2 := Lib.hid hb2; obtain ⟨q0, q1, q2, q3⟩ := HX.out w2 hb2; have HS := Lib.hid (fun (w' : World) (hw : Below w2.heap.size w2 w') => refSum_any (y8.below hw) (by have := hm8.out; have := HPL.out; omega)); clear hown2 hg2 hb2 y8 hO8)
        go_quiet (fail)
        go_wp2_with (first | (go_at_call 12; refine (HS.out _ (below_drawn (Below.refl _ _) _)).mono ?_; rintro e w3 ⟨rfl, hw3⟩; have hb3 : Below w2.heap.size w2 w3 := hw3 ▸ below_drawn (Below.refl _ _) _; have HB3 := Lib.hid (HB2.out.trans (hb3.mono HB2.out.size)); have HO8 := Lib.hid (HO8.out.below hb3); obtain ⟨L3, hL3, hn3⟩ := nil_world w3; have HL3 := Lib.hid hn3; clear hw3 hb3 hn3) | (at_builtin; refine wpList_append_has rfl (.tmp 65) (.tmp 69) 22 rfl w3.heap.size 5 i0 (.int .u8 0) 1 Try.underlying22 hi0 hz0 hz1 hz2 rfl _ _ _ rfl HL3.out.2.1 _ _ _ _ rfl (HQ.out.below (HB3.out.trans (HL3.out.1.mono HB3.out.size))).has (by unfold maxLen; omega) (by omega) (by have := HL3.out.2.2; omega) ?_; intro v9 w5 hown5 hg5; have hb5 : Below w3.heap.size w3 w5 := (HL3.out.1.grown hg5 (by have := HL3.out.2.2; omega) (fun g hg' => (World.ownsRow.lt HL3.out.2.1 g hg').1)); have HO9 := Lib.hid (own_of_nil hown5 HQL9.out HQ.out.ran); have HB5 := Lib.hid hb5; clear hown5 hg5 hb5))
        go_ret3
        exact UnwP.yes HC.out rfl ((HO8.out.below HB5.out).mono HB1.out.size) (HO9.out.mono (Nat.le_trans HB1.out.size HB3.out.size)) (HB1.out.trans ((HB3.out.trans (HB5.out.mono HB3.out.size)).mono HB1.out.size))
  · have hne : ((F : Int) != x0 * 16777216 + x1 * 65536 + x2 * 256 + x3) = true := by simp; omega
    rw [if_neg hDF] at hcr
    have HC := Lib.hid hcr; clear hcr hDF
    by_cases hc4 : c2 = 4
    · have hcs : c2 = 4 + sz := by omega
      have hP : Byt w1 (some ⟨b, off, none⟩) (4 + sz - 4) 0 ((R.drop 4).take sz) := by
        have e : (R.drop 4).take sz = [] := List.length_eq_zero_iff.1 (by rw [HPL.out]; omega)
        rw [e, show 4 + sz - 4 = 0 by omega]; exact byt_none (by unfold maxLen; omega) (by intro h; cases h)
      have hQ : Byt w1 (some ⟨b, off, none⟩) (m2 - (4 + sz)) (4 - (4 + sz)) (R.drop (4 + sz)) := by
        have e : R.drop (4 + sz) = [] := List.length_eq_zero_iff.1 (by rw [HQL.out]; have := hm2.out; omega)
        rw [e, show m2 - (4 + sz) = 0 by omega]; exact byt_none (by unfold maxLen; omega) (by intro h; cases h)
      have HP := Lib.hid hP; have HQ := Lib.hid hQ
      have HPL8 : Hid (((R.drop 4).take sz).length = 4 + sz - 4) := Lib.hid (by rw [HPL.out]; omega)
      have HQL9 : Hid ((R.drop (4 + sz)).length = m2 - (4 + sz)) := Lib.hid (by rw [HQL.out, hm2.out])
      clear hP hQ hmx
      obtain ⟨L1, hL1, hn1⟩ := nil_world w1
      have HL1 := Lib.hid hn1; clear hn1
      go_wp2_with (at_builtin; refine wpList_append_has rfl (.tmp 32) (.tmp 36) 22 rfl w1.heap.size 5 i0 (.int .u8 0) 1 Try.underlying22 hi0 hz0 hz1 hz2 rfl _ _ _ rfl HL1.out.2.1 _ _ _ _ rfl (HP.out.below HL1.out.1).has (by unfold maxLen; omega) (by omega) (by have := HL1.out.2.2; omega) ?_; intro v8 w2 hown2 hg2; have hb2 : Below w1.heap.size w1 w2 := (HL1.out.1.grown hg2 (by have := HL1.out.2.2; omega) (fun g hg' => (World.ownsRow.lt HL1.out.2.1 g hg').1)); have hO8 := own_of_nil hown2 HPL8.out HP.out.ran; obtain ⟨A8, m8, c8, rfl, hm8, y8⟩ := hO8.bytm; have HO8 := Lib.hid hO8; have HB2 := Lib.hid hb2; obtain ⟨q0, q1, q2, q3⟩ := HX.out w2 hb2; have HS := Lib.hid (fun (w' : World) (hw : Below w2.heap.size w2 w') => refSum_any (y8.below hw) (by have := hm8.out; have := HPL.out; omega)); clear hown2 hg2 hb2 y8 hO8)
      go_quiet (fail)
      go_wp2_with (go_at_call 12; refine (HS.out _ (below_drawn (Below.refl _ _) _)).mono ?_; rintro e w3 ⟨rfl, hw3⟩; have hb3 : Below w2.heap.size w2 w3 := hw3 ▸ below_drawn (Below.refl _ _) _; have HB3 := Lib.hid (HB2.out.trans (hb3.mono HB2.out.size)); have HO8 := Lib.hid (HO8.out.below hb3); obtain ⟨L3, hL3, hn3⟩ := nil_world w3; have HL3 := Lib.hid hn3; clear hw3 hb3 hn3)
      go_ret3
      exact UnwP.no 4 (by rw [HC.out]) (by decide) rfl (HB1.out.trans (HB3.out.mono HB1.out.size))
    · by_cases hcs : c2 = 4 + sz
      · have hP : Byt w1 (some ⟨b, off + 4, none⟩) (4 + sz - 4) (sz) ((R.drop 4).take sz) := by
          rw [show 4 + sz - 4 = sz by omega]; exact by have h := byt_take (byt_drop HY.out 4 (by omega)) sz (by omega); rwa [show c2 - 4 = sz by omega] at h
        have hQ : Byt w1 (some ⟨b, off, none⟩) (m2 - (4 + sz)) (4 + sz - (4 + sz)) (R.drop (4 + sz)) := by
          have e : R.drop (4 + sz) = [] := List.length_eq_zero_iff.1 (by rw [HQL.out]; have := hm2.out; omega)
          rw [e, show m2 - (4 + sz) = 0 by omega]; exact byt_none (by unfold maxLen; omega) (by intro h; cases h)
        have HP := Lib.hid hP; have HQ := Lib.hid hQ
        have HPL8 : Hid (((R.drop 4).take sz).length = 4 + sz - 4) := Lib.hid (by rw [HPL.out]; omega)
        have HQL9 : Hid ((R.drop (4 + sz)).length = m2 - (4 + sz)) := Lib.hid (by rw [HQL.out, hm2.out])
        clear hP hQ hmx
        obtain ⟨L1, hL1, hn1⟩ := nil_world w1
        have HL1 := Lib.hid hn1; clear hn1
        go_wp2_with (at_builtin; refine wpList_append_has rfl (.tmp 32) (.tmp 36) 22 rfl w1.heap.size 5 i0 (.int .u8 0) 1 Try.underlying22 hi0 hz0 hz1 hz2 rfl _ _ _ rfl HL1.out.2.1 _ _ _ _ rfl (HP.out.below HL1.out.1).has (by unfold maxLen; omega) (by omega) (by have := HL1.out.2.2; omega) ?_; intro v8 w2 hown2 hg2; have hb2 : Below w1.heap.size w1 w2 := (HL1.out.1.grown hg2 (by have := HL1.out.2.2; omega) (fun g hg' => (World.ownsRow.lt HL1.out.2.1 g hg').1)); have hO8 := own_of_nil hown2 HPL8.out HP.out.ran; obtain ⟨A8, m8, c8, rfl, hm8, y8⟩ := hO8.bytm; have HO8 := Lib.hid hO8; have HB2 := Lib.hid hb2; obtain ⟨q0, q1, q2, q3⟩ := HX.out w2 hb2; have HS := Lib.hid (fun (w' : World) (hw : Below w2.heap.size w2 w') => refSum_any (y8.below hw) (by have := hm8.out; have := HPL.out; omega)); clear hown2 hg2 hb2 y8 hO8)
        go_quiet (fail)
        go_wp2_with (go_at_call 12; refine (HS.out _ (below_drawn (Below.refl _ _) _)).mono ?_; rintro e w3 ⟨rfl, hw3⟩; have hb3 : Below w2.heap.size w2 w3 := hw3 ▸ below_drawn (Below.refl _ _) _; have HB3 := Lib.hid (HB2.out.trans (hb3.mono HB2.out.size)); have HO8 := Lib.hid (HO8.out.below hb3); obtain ⟨L3, hL3, hn3⟩ := nil_world w3; have HL3 := Lib.hid hn3; clear hw3 hb3 hn3)
        go_ret3
        exact UnwP.no 4 (by rw [HC.out]) (by decide) rfl (HB1.out.trans (HB3.out.mono HB1.out.size))
      · have hP : Byt w1 (some ⟨b, off + 4, none⟩) (4 + sz - 4) (c2 - 4) ((R.drop 4).take sz) := by
          rw [show 4 + sz - 4 = sz by omega]; exact byt_take (byt_drop HY.out 4 (by omega)) sz (by omega)
        have hQ : Byt w1 (some ⟨b, off + (4 + sz), none⟩) (m2 - (4 + sz)) (c2 - (4 + sz)) (R.drop (4 + sz)) := byt_drop HY.out (4 + sz) (by omega)
        have HP := Lib.hid hP; have HQ := Lib.hid hQ
        have HPL8 : Hid (((R.drop 4).take sz).length = 4 + sz - 4) := Lib.hid (by rw [HPL.out]; omega)
        have HQL9 : Hid ((R.drop (4 + sz)).length = m2 - (4 + sz)) := Lib.hid (by rw [HQL.out, hm2.out])
        clear hP hQ hmx
        obtain ⟨L1, hL1, hn1⟩ := nil_world w1
        have HL1 := Lib.hid hn1; clear hn1
        go_wp2_with (at_builtin; refine wpList_append_has rfl (.tmp 32) (.tmp 36) 22 rfl w1.heap.size 5 i0 (.int .u8 0) 1 Try.underlying22 hi0 hz0 hz1 hz2 rfl _ _ _ rfl HL1.out.2.1 _ _ _ _ rfl (HP.out.below HL1.out.1).has (by unfold maxLen; omega) (by omega) (by have := HL1.out.2.2; omega) ?_; intro v8 w2 hown2 hg2; have hb2 : Below w1.heap.size w1 w2 := (HL1.out.1.grown hg2 (by have := HL1.out.2.2; omega) (fun g hg' => (World.ownsRow.lt HL1.out.2.1 g hg').1)); have hO8 := own_of_nil hown2 HPL8.out HP.out.ran; obtain ⟨A8, m8, c8, rfl, hm8, y8⟩ := hO8.bytm; have HO8 := Lib.hid hO8; have HB2 := Lib.hid hb2; obtain ⟨q0, q1, q2, q3⟩ := HX.out w2 hb2; have HS := Lib.hid (fun (w' : World) (hw : Below w2.heap.size w2 w') => refSum_any (y8.below hw) (by have := hm8.out; have := HPL.out; omega)); clear hown2 hg2 hb2 y8 hO8)
        go_quiet (fail)
        go_wp2_with (go_at_call 12; refine (HS.out _ (below_drawn (Below.refl _ _) _)).mono ?_; rintro e w3 ⟨rfl, hw3⟩; have hb3 : Below w2.heap.size w2 w3 := hw3 ▸ below_drawn (Below.refl _ _) _; have HB3 := Lib.hid (HB2.out.trans (hb3.mono HB2.out.size)); have HO8 := Lib.hid (HO8.out.below hb3); obtain ⟨L3, hL3, hn3⟩ := nil_world w3; have HL3 := Lib.hid hn3; clear hw3 hb3 hn3)
        go_ret3
        exact UnwP.no 4 (by rw [HC.out]) (by decide) rfl (HB1.out.trans (HB3.out.mono HB1.out.size))
end Go.Proofs.Ytfamghmoanfdgaa
