/- Walks: Encode of the program; digits and sum of the reference. -/
import Derived.Test.YtblhpbheejemnaaPkW
import Derived.Test.YtblhpbheejemnaaRcErr
namespace Go.Proofs.Ytblhpbheejemnaa
open Go.RowKit

/-- What Encode gives. -/
def EncOut (w : World) (r : Rc) (e : Ending) (w' : World) : Prop :=
  ∃ v, e = .returned (.tuple #[v, .int .i64 (chkR r)]) ∧ Own w' w.heap.size v (if chkR r = 0 then encP r else []) ∧ Below w.heap.size w w'
set_option maxRecDepth 100000 in
set_option maxHeartbeats 8000000 in
theorem encode_any (r : Rc) (ha : r.sa.size ≤ maxLen) (hb : r.sb.size ≤ maxLen) (w : World) : Calls Try.prog 14 #[.agg r.cells] w (EncOut w r) := by
  obtain ⟨i0, hi0, hz0, hz1, hz2⟩ := info_parts byteInfo
  obtain ⟨L, hL, hL0, hx, hLs⟩ := rec_world w r
  obtain ⟨c0, c1, c2, c3, c4, c5, c6, c7, c8, c9, c10, c11⟩ := hx.cells
  have HCK := Lib.hid (check_any r ha hb)
  have HL0 := Lib.hid hL0; have HX := Lib.hid hx; have HLS := Lib.hid hLs
  by_cases h0 : chkR r = 0
  · have HWR := Lib.hid (write_any r (chk_fit h0))
    have HEN : Hid (encP r = bodyR r ++ [smL (bodyR r)]) := Lib.hid rfl
    have HLEN := Lib.hid (body_len r)
    have HRAN := Lib.hid (sm_ran (bodyR r))
    obtain ⟨BR, hBR⟩ : ∃ BR, bodyR r = BR := ⟨_, rfl⟩
    rw [hBR] at HWR HEN HLEN HRAN
    rw [h0] at HCK
    have HOUT : Hid (∀ e w', (∃ v, e = .returned (.tuple #[v, .int .i64 0]) ∧ Own w' w.heap.size v (encP r) ∧ Below w.heap.size w w') → EncOut w r e w') := Lib.hid (fun e w' h => by
      obtain ⟨v, h1, h2, h3⟩ := h
      exact ⟨v, by rw [h0]; exact h1, by rw [if_pos h0]; exact h2, h3⟩)
    obtain ⟨EP, hEP⟩ : ∃ EP, encP r = EP := ⟨_, rfl⟩
    obtain ⟨Q, hQ⟩ : ∃ Q, EncOut w r = Q := ⟨_, rfl⟩
    rw [hEP] at HEN HOUT
    rw [hQ] at HOUT ⊢
    obtain ⟨sm, hsm⟩ : ∃ sm, smL BR = sm := ⟨_, rfl⟩
    have HSM := Lib.hid hsm
    rw [hsm] at HEN HRAN
    obtain ⟨s0, s1, s2, sa, sb, s5, s6, s7, s8, b9, s10, b11⟩ := r
    unfold Rc.cells at HCK HWR hL ⊢
    simp only at hL HCK HWR c0 c1 c2 c3 c4 c5 c6 c7 c8 c9 c10 c11 ⊢
    clear hx hL0 ha hb h0 hBR hLs hEP hQ hsm
    go_enter Try.func14, Try.ntmps14
    go_wp2_with (first
      | (go_at_call 24; (with_reducible refine (HCK.out _).mono ?_); rintro e w1 ⟨rfl, hb1⟩; have HB1 := Lib.hid (hb1.mono HL0.out.size : Below w.heap.size L w1); have HX1 := Lib.hid (HX.out.below hb1 (by have := HLS.out; omega)); clear hb1 c0 c1 c2 c3 c4 c5 c6 c7 c8 c9 c10 c11; obtain ⟨c0, c1, c2, c3, c4, c5, c6, c7, c8, c9, c10, c11⟩ := HX1.out.cells; simp only at c0 c1 c2 c3 c4 c5 c6 c7 c8 c9 c10 c11)
      | (go_at_call 25; (with_reducible refine (HWR.out _).mono ?_); rintro e w2 ⟨v2, rfl, ho2, hb2⟩; obtain ⟨A2, m2, q2, rfl, HM2, hby2⟩ := ho2.bytm; have HO2 := Lib.hid ho2; have HBY := Lib.hid hby2; have HS1 : Hid (w.heap.size ≤ w1.heap.size) := Lib.hid (Nat.le_trans HL0.out.size HB1.out.size); have HB2 : Hid (Below w.heap.size L w2) := Lib.hid (HB1.out.trans (hb2.mono HS1.out)); have HS2 := Lib.hid hb2.size; clear ho2 hby2 hb2 c0 c1 c2 c3 c4 c5 c6 c7 c8 c9 c10 c11)
      | (go_at_call 26; (with_reducible refine (sum_any A2 m2 q2 BR w2 HBY.out).mono ?_); rw [HSM.out]; rintro e w3 ⟨rfl, rfl⟩)
      | (at_builtin; refine wpList_append_own _ rfl (.tmp 13) (.tmp 16) 22 rfl w1.heap.size 5 i0 (.int .u8 0) 1 1 Try.underlying22 hi0 hz0 hz1 hz2 rfl (by decide) (.slice A2 m2 q2) _ (C8 BR) rfl (HO2.out.1.alloc _) ⟨w2.heap.size, 0, none⟩ 1 1 (C8 [sm]) rfl rfl (cell_one_new _ _ _) (C8_one _) (by rw [HLEN.out]; unfold maxLen; decide) (by rw [HLEN.out]; decide) (by have := HS2.out; simp; omega) ?_; intro v4 w4 q1 q2 _; have HO4 : Hid (Own w4 w1.heap.size v4 (BR ++ [sm])) := Lib.hid (own_app q1 rfl rfl HO2.out.2 (by intro x hx; obtain rfl : x = sm := (by simpa using hx); exact HRAN.out)); have HB4 : Hid (Below w.heap.size L w4) := Lib.hid ((HB2.out.alloc (Nat.le_trans HS1.out HS2.out) _).grown q2 (by have := HS1.out; have := HS2.out; simp; omega) (fun g hg => by have := (HO2.out.1.lt g hg).1; have := HS1.out; omega)); clear q1 q2))
    exact HOUT.out _ _ ⟨_, rfl, by rw [HEN.out]; exact HO4.out.mono HS1.out, HL0.out.trans HB4.out⟩
  · obtain ⟨x, hx0⟩ : ∃ x, chkR r = x := ⟨_, rfl⟩
    have hxq : (x == 0) = false := by rw [hx0] at h0; simp [h0]
    have HOUT : Hid (∀ e w', (e = .returned (.tuple #[.slice none 0 0, .int .i64 x]) ∧ Below w.heap.size w w') → EncOut w r e w') := Lib.hid (fun e w' h => by
      obtain ⟨h1, h3⟩ := h
      exact ⟨_, by rw [hx0]; exact h1, by rw [if_neg h0]; exact own_none _ _, h3⟩)
    obtain ⟨Q, hQ⟩ : ∃ Q, EncOut w r = Q := ⟨_, rfl⟩
    rw [hQ] at HOUT ⊢
    rw [hx0] at HCK
    obtain ⟨s0, s1, s2, sa, sb, s5, s6, s7, s8, b9, s10, b11⟩ := r
    unfold Rc.cells at HCK hL ⊢
    simp only at hL HCK c0 c1 c2 c3 c4 c5 c6 c7 c8 c9 c10 c11 ⊢
    clear hx hL0 ha hb h0 hLs hQ hx0
    go_enter Try.func14, Try.ntmps14
    go_wp2_with (go_at_call 24; (with_reducible refine (HCK.out _).mono ?_); rintro e w1 ⟨rfl, hb1⟩; have HB1 := Lib.hid (hb1.mono HL0.out.size : Below w.heap.size L w1))
    exact HOUT.out _ _ ⟨rfl, HL0.out.trans HB1.out⟩
set_option maxRecDepth 100000 in
set_option maxHeartbeats 4000000 in
theorem refSum_any (A : Option Addr) (m c : Nat) (l : List Int) (w : World) (hA : Byt w A m c l) :
    Calls Try.prog 29 #[.slice A m c] w fun e w' => e = .returned (.int .u8 (smL l)) ∧ w = w' := by
  have hm := hA.len
  have HA := Lib.hid hA; have HM := Lib.hid hm
  have hcm : m ≤ c ∧ c ≤ maxLen := ⟨hA.cap, hA.max⟩
  unfold maxLen at hcm
  clear hA hm
  go_enter Try.func29, Try.ntmps29
  go_wp2_with fail
  go_loopw [3, 4] (fun nv iv wr => ∃ (k : Nat) (z : Int), nv = .int .i64 z ∧ iv = .int .i64 k ∧ k ≤ m ∧ Hid (smL (l.take k) = z) ∧ 0 ≤ z ∧ z ≤ 255 ∧ w = wr) (fun _ iv _ => m - (intOf iv).toNat)
  case atStart => exact ⟨0, 0, rfl, rfl, by omega, Lib.hid (by simp [smL]), by omega, by omega, by first | rfl | trivial⟩
  case round =>
    obtain ⟨k, z, rfl, rfl, hk, HZ, hz0, hz1, rfl⟩ := hrel
    by_cases hlt : k < m
    · have hlt' : (k : Int) < (m : Int) := by omega
      obtain ⟨b, off, x, rfl, hx, hcx, hbl⟩ := HA.out.at hlt
      obtain ⟨r0, r1⟩ := HA.out.ran x (List.mem_of_getElem? hx)
      have HTK := Lib.hid (sm_snoc hx)
      have hk0 : (0 : Int) ≤ (k : Int) := by omega
      clear hx
      go_wp2_with fail
      go_roundw
      case rel => exact ⟨k + 1, (z + x) % 256, by first | rfl | go_num, by go_num, by omega, Lib.hid (by rw [HTK.out, HZ.out]), by omega, by omega, by first | rfl | trivial⟩
      case measure => simp [intOf]; omega
    · obtain rfl : k = m := by omega
      go_wp2_with fail
      go_ret
      exact ⟨by rw [← HZ.out, List.take_of_length_le (by have := HM.out; omega)]; rfl, rfl⟩
set_option maxRecDepth 100000 in
set_option maxHeartbeats 4000000 in
theorem digits_any (s : ByteArray) (w : World) (hs : dgB s = true) : Calls Try.prog 28 #[.string s] w (Gives w w.heap.size (phL s)) := by
  obtain ⟨i0, hi0, hz0, hz1, hz2⟩ := info_parts byteInfo
  have h15 := dg_size hs
  have HS := Lib.hid hs
  clear hs
  go_enter Try.func28, Try.ntmps28
  go_wp2_with (at_make; refine wpList_make_full _ rfl _ _ 22 rfl w.heap.size 5 i0 (.int .u8 0) 1 Try.underlying22 hi0 hz0 hz1 _ _ _ _ 8 rfl rfl rfl rfl (by rw [hz2]; decide) (by unfold maxLen; decide) (Nat.le_refl _) ?_; intro w1 q1 q2; have HO1 : Hid (Own w1 w.heap.size (.slice (some ⟨w.heap.size, 0, none⟩) 8 8) (List.replicate 8 0)) := Lib.hid (own_zeros q1); have HB1 : Hid (Below w.heap.size w w1) := Lib.hid ((Below.refl _ _).grown q2 (Nat.le_refl _) (fun _ h => by cases h)); obtain ⟨cx0, fx0⟩ := own_cellk HO1.out (k := 0) (by decide); have HO2 : Hid (Own (w1.setCell ⟨w.heap.size, 0, none⟩ (.int .u8 ((s.size : Int) * 16))) w.heap.size (.slice (some ⟨w.heap.size, 0, none⟩) 8 8) (phT s.data.toList 0)) := Lib.hid (by have h := own_set HO1.out (k := 0) (y := (s.size : Int) * 16) (by decide) (by omega) (by omega); rw [phT_zero, len_data]; exact h); clear q1 q2)
  go_loopw [4] (fun iv wr => ∃ k : Nat, iv = .int .i64 k ∧ k ≤ s.size ∧ Hid (Own wr w.heap.size (.slice (some ⟨w.heap.size, 0, none⟩) 8 8) (phT s.data.toList k)) ∧ Hid (Below w.heap.size w wr)) (fun iv _ => s.size - (intOf iv).toNat)
  case atStart => exact ⟨0, rfl, by omega, HO2, Lib.hid (HB1.out.setCell (p := ⟨w.heap.size, 0, none⟩) (Nat.le_refl _) _)⟩
  case round =>
    obtain ⟨k, rfl, hk, HO, HB⟩ := hrel
    by_cases hlt : k < s.size
    · obtain ⟨c48, c57⟩ := dg_at HS.out hlt
      have hlt' : (k : Int) < (s.size : Int) := by omega
      have hk0 : (0 : Int) ≤ (k : Int) := by omega
      obtain ⟨q, hq⟩ : ∃ q, (k + 1) / 2 = q := ⟨_, rfl⟩
      have hq8 : q < 8 := by omega
      have hqi : ((k : Int) + 1) / 2 = (q : Int) := by omega
      obtain ⟨cx, fx⟩ := own_cellk HO.out (k := q) (by rw [phT_len]; exact hq8)
      rw [phT_at _ _ _ hq8] at cx
      have hk14 : k ≤ 14 := by omega
      have hq8i : (q : Int) < 8 := by omega
      have hq0i : (0 : Int) ≤ (q : Int) := by omega
      by_cases he : (k + 1) % 2 = 0
      · have e2 : (((k : Int) + 1) % 2 == 0) = true := by simp; omega
        rw [phA_off (show k < 2 * q by omega), phA_off (show k < 2 * q + 1 by omega), show (0 : Int) * 16 + 0 = 0 from rfl] at cx
        have HN : Hid (Own (wr.setCell ⟨w.heap.size, q, none⟩ (.int .u8 (((s[k].toNat : Int) - 48) * 16))) w.heap.size (.slice (some ⟨w.heap.size, 0, none⟩) 8 8) (phT s.data.toList (k + 1))) := Lib.hid (by
          have h := own_set HO.out (k := q) (y := ((s[k].toNat : Int) - 48) * 16) (by rw [phT_len]; exact hq8) (by omega) (by omega)
          rw [phT_set hq.symm (by rw [show 2 * q = k + 1 by omega, phA_new hlt, phA_off (by omega), Int.add_zero])] at h
          exact h)
        clear hq he
        go_wp2_with fail
        go_region
        go_wp2_with fail
        go_roundw
        case rel => exact ⟨k + 1, by go_num, by omega, HN, Lib.hid (below_drawn (HB.out.setCell (p := ⟨w.heap.size, q, none⟩) (Nat.le_refl _) _) _)⟩
        case measure => simp [intOf]; omega
      · have e2 : (((k : Int) + 1) % 2 == 0) = false := by simp; omega
        rw [phA_off (show k < 2 * q + 1 by omega), Int.add_zero] at cx
        obtain ⟨a0, a1⟩ := phA_ran HS.out (k := 2 * q) hk
        obtain ⟨z, hz⟩ : ∃ z, phA s.data.toList k (2 * q) = z := ⟨_, rfl⟩
        rw [hz] at a0 a1 cx
        have HN : Hid (Own (wr.setCell ⟨w.heap.size, q, none⟩ (.int .u8 (z * 16 + ((s[k].toNat : Int) - 48)))) w.heap.size (.slice (some ⟨w.heap.size, 0, none⟩) 8 8) (phT s.data.toList (k + 1))) := Lib.hid (by
          have h := own_set HO.out (k := q) (y := z * 16 + ((s[k].toNat : Int) - 48)) (by rw [phT_len]; exact hq8) (by omega) (by omega)
          rw [phT_set hq.symm (by rw [phA_keep (by omega), hz, show 2 * q + 1 = k + 1 by omega, phA_new hlt])] at h
          exact h)
        clear hq he hz
        go_wp2_with fail
        go_region
        go_wp2_with fail
        go_roundw
        case rel => exact ⟨k + 1, by go_num, by omega, HN, Lib.hid (below_drawn (HB.out.setCell (p := ⟨w.heap.size, q, none⟩) (Nat.le_refl _) _) _)⟩
        case measure => simp [intOf]; omega
    · obtain rfl : k = s.size := by omega
      go_wp2_with fail
      go_ret
      exact ⟨_, rfl, HO.out, HB.out⟩
end Go.Proofs.Ytblhpbheejemnaa
