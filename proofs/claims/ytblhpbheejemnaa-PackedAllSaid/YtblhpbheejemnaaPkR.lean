/- Walks: PutDecimal and Decimal, of the reference. -/
import Derived.Test.YtblhpbheejemnaaPkD
namespace Go.Proofs.Ytblhpbheejemnaa
open Go.RowKit

theorem quo16 (x : Int) (h0 : 0 ≤ x) : Int.tdiv x 16 = x / 16 := by rw [Int.tdiv_eq_ediv_of_nonneg h0]
set_option maxRecDepth 100000 in
set_option maxHeartbeats 4000000 in
theorem refDecimal_any (A : Option Addr) (m c : Nat) (l : List Int) (w : World) (hA : Byt w A m c l) :
    Calls Try.prog 12 #[.slice A m c] w fun e w' => e = .returned (.tuple #[.int .i64 (deL l).1, .int .i64 (deL l).2]) ∧ Below w.heap.size w w' := by
  have hm := hA.len
  by_cases m1 : 1 ≤ m
  · have d1 : decide ((m : Int) < 1) = false := decide_eq_false (by omega)
    by_cases m9 : m ≤ 9
    · have d9 : decide (9 < (m : Int)) = false := decide_eq_false (by omega)
      have HL : Hid (deL l = if l.all bdB = true then (deN l, 0) else (0, 1)) := Lib.hid (by unfold deL; rw [if_neg (by omega)])
      have HA := Lib.hid hA; have HM := Lib.hid hm
      clear hA hm
      go_enter Try.func12, Try.ntmps12
      go_wp2_with fail
      go_loopw [4, 5] (fun nv iv wr => ∃ (k : Nat) (z : Int), nv = .int .i64 z ∧ iv = .int .i64 k ∧ k ≤ m ∧ Hid (deN (l.take k) = z) ∧ Hid (∀ j, j < k → bdB (l.getD j 0) = true) ∧ 0 ≤ z ∧ z < 100 ^ k ∧ Hid (Below w.heap.size w wr)) (fun _ iv _ => m - (intOf iv).toNat)
      case atStart => exact ⟨0, 0, rfl, rfl, by omega, Lib.hid (by simp [deN]), Lib.hid (fun j hj => by omega), by omega, by simp, Lib.hid (Below.refl _ _)⟩
      case round =>
        obtain ⟨k, z, rfl, rfl, hk, HZ, HBD, hz0, hz1, HB⟩ := hrel
        by_cases hlt : k < m
        · have hlt' : (k : Int) < (m : Int) := by omega
          obtain ⟨b, off, x, rfl, hx, hcx, hbl⟩ := (HA.out.below HB.out).at hlt
          have hr := HA.out.ran x (List.mem_of_getElem? hx)
          obtain ⟨r0, r1⟩ := hr
          have hz8 : z ≤ 10000000000000000 := by
            have h := Nat.pow_le_pow_right (n := 100) (by decide) (show k ≤ 8 by omega)
            rw [show (100 : Nat) ^ 8 = 10000000000000000 by decide] at h
            have e : (100 : Int) ^ k = ((100 ^ k : Nat) : Int) := by simp
            rw [e] at hz1; omega
          have HX := Lib.hid hx
          have HTK := Lib.hid (take_de hx)
          have HZ1 := Lib.hid hz1
          have hgd : l.getD k 0 = x := by rw [List.getD_eq_getElem?_getD, hx]; rfl
          have HGD := Lib.hid hgd
          have hk0 : (0 : Int) ≤ (k : Int) := by omega
          clear hz1 hx hgd
          by_cases c1 : x / 16 ≤ 9
          · have f1 : decide (9 < x / 16) = false := decide_eq_false (by omega)
            by_cases c2 : x % 16 ≤ 9
            · have f2 : decide (9 < x % 16) = false := decide_eq_false (by omega)
              have HOK : Hid (bdB x = true) := Lib.hid (by unfold bdB; rw [decide_eq_true c1, decide_eq_true c2]; rfl)
              go_wp2_with fail
              go_quiet (fail)
              go_wp2_with fail
              go_roundw
              case rel => exact ⟨k + 1, z * 100 + x / 16 * 10 + x % 16, by first | rfl | go_num, by go_num, by omega, Lib.hid (by rw [HTK.out, HZ.out]), Lib.hid (bd_more HBD.out HGD.out HOK.out), by omega, de_up HZ1.out c1 c2, Lib.hid (below_drewN HB.out _)⟩
              case measure => simp [intOf]; omega
            · have f2 : decide (9 < x % 16) = true := decide_eq_true (by omega)
              have HNO : Hid (l.all bdB = false) := Lib.hid (all_no HX.out (by unfold bdB; rw [decide_eq_false c2, Bool.and_false]))
              go_wp2_with fail
              go_ret2
              exact ⟨by rw [HL.out, HNO.out]; rfl, HB.out⟩
          · have f1 : decide (9 < x / 16) = true := decide_eq_true (by omega)
            have HNO : Hid (l.all bdB = false) := Lib.hid (all_no HX.out (by unfold bdB; rw [decide_eq_false c1, Bool.false_and]))
            go_wp2_with fail
            go_ret2
            exact ⟨by rw [HL.out, HNO.out]; rfl, HB.out⟩
        · obtain rfl : k = m := by omega
          have HALL : Hid (l.all bdB = true) := Lib.hid (by
            rw [List.all_eq_true]
            intro y hy
            obtain ⟨j, hj, rfl⟩ := List.getElem_of_mem hy
            have := HBD.out j (by have := HM.out; omega)
            rwa [List.getD_eq_getElem?_getD, List.getElem?_eq_getElem hj] at this)
          clear hz1
          go_wp2_with fail
          go_ret2
          exact ⟨by rw [HL.out, HALL.out, if_pos rfl, ← HZ.out, List.take_of_length_le (by have := HM.out; omega)]; rfl, HB.out⟩
    · have d9 : decide (9 < (m : Int)) = true := decide_eq_true (by omega)
      have HL : Hid (deL l = (0, 6)) := Lib.hid (by unfold deL; rw [if_pos (by omega)])
      clear hA hm
      go_enter Try.func12, Try.ntmps12
      go_wp2_with fail
      go_ret2
      exact ⟨by rw [HL.out]; rfl, Below.refl _ _⟩
  · have d1 : decide ((m : Int) < 1) = true := decide_eq_true (by omega)
    have HL : Hid (deL l = (0, 6)) := Lib.hid (by unfold deL; rw [if_pos (by omega)])
    clear hA hm
    go_enter Try.func12, Try.ntmps12
    go_wp2_with fail
    go_ret2
    exact ⟨by rw [HL.out]; rfl, Below.refl _ _⟩
set_option maxRecDepth 100000 in
set_option maxHeartbeats 4000000 in
theorem refPut_any (A : Option Addr) (m c : Nat) (l : List Int) (n size : Int) (w : World) (hA : Byt w A m c l) (h6 : m ≤ 1000) (hn1 : -9223372036854775808 ≤ n) (hn2 : n ≤ 9223372036854775807) :
    Calls Try.prog 10 #[.slice A m c, .int .i64 n, .int .i64 size] w (PutOut w l n size) := by
  obtain ⟨i0, hi0, hz0, hz1, hz2⟩ := info_parts byteInfo
  have hno : ∀ (h : fitB n size = false) (w' : World), Below w.heap.size w w' → PutOut w l n size (.returned (.tuple #[.slice none 0 0, .int .i64 6])) w' := fun h w' hb => ⟨_, by rw [h]; rfl, by rw [h]; exact own_none _ _, hb⟩
  have HNO := Lib.hid hno
  by_cases s1 : 1 ≤ size
  · have d1 : decide (size < 1) = false := decide_eq_false (by omega)
    by_cases s9 : size ≤ 9
    · have d9 : decide (9 < size) = false := decide_eq_false (by omega)
      obtain ⟨s, rfl⟩ := Int.eq_ofNat_of_zero_le (show 0 ≤ size by omega)
      by_cases n0 : 0 ≤ n
      · have e0 : decide (n < 0) = false := decide_eq_false (by omega)
        obtain ⟨N, rfl⟩ := Int.eq_ofNat_of_zero_le n0
        have HFT : Hid (fitB (N : Int) (s : Int) = decide (N < 100 ^ s)) := Lib.hid (by
          unfold fitB
          rw [decide_eq_true s1, decide_eq_true s9, decide_eq_true n0]
          simp only [Bool.true_and, Int.toNat_natCast]
          have e : (100 : Int) ^ s = ((100 ^ s : Nat) : Int) := by simp
          exact decide_eq_decide.2 ⟨fun h => by rw [e] at h; omega, fun h => by rw [e]; omega⟩)
        have HA := Lib.hid hA
        have hs0 : (0 : Int) ≤ (s : Int) := by omega
        have hs1 : 1 ≤ s := by omega
        have hs9 : s ≤ 9 := by omega
        clear hA hno
        go_enter Try.func10, Try.ntmps10
        have hN : (N : Int) ≤ 9223372036854775807 := hn2
        go_wp2_with (at_make; refine wpList_make_full _ rfl (.tmp 20) (.tmp 20) 22 rfl w.heap.size 5 i0 (.int .u8 0) 1 Try.underlying22 hi0 hz0 hz1 _ _ _ _ s rfl rfl (by omega) (by omega) (by rw [hz2]; omega) (by unfold maxLen; omega) (Nat.le_refl _) ?_; intro w1 q1 q2; have HO1 : Hid (Own w1 w.heap.size (.slice (some ⟨w.heap.size, 0, none⟩) s s) (pdF N s 0)) := Lib.hid (by rw [pdF_zero]; exact own_zeros q1); have HB1 : Hid (Below w.heap.size w w1) := Lib.hid ((Below.refl _ _).grown q2 (Nat.le_refl _) (fun _ h => by cases h)); have HS1 : Hid (w.heap.size < w1.heap.size) := Lib.hid (q1.lt w.heap.size rfl).2; clear q1 q2)
        go_loopw [1, 9] (fun nv iv wr => ∃ (k : Nat) (j : Int), nv = .int .i64 ((N / 100 ^ k : Nat) : Int) ∧ iv = .int .i64 j ∧ j = (s : Int) - 1 - (k : Int) ∧ k ≤ s ∧ Hid (Own wr w.heap.size (.slice (some ⟨w.heap.size, 0, none⟩) s s) (pdF N s k)) ∧ Hid (Below w.heap.size w wr) ∧ Hid (w.heap.size < wr.heap.size)) (fun _ iv _ => (intOf iv + 1).toNat)
        case atStart => exact ⟨0, (s : Int) - 1, by simp, by first | rfl | go_num, by omega, by omega, HO1, HB1, HS1⟩
        case round =>
          obtain ⟨k, j, rfl, rfl, hj, hk, HO, HB, HS⟩ := hrel
          by_cases hlt : k < s
          · obtain ⟨J, rfl⟩ := Int.eq_ofNat_of_zero_le (show 0 ≤ j by omega)
            have hJs : J = s - 1 - k := by omega
            have HJ := Lib.hid hJs
            have hJM : J < s := by omega
            obtain ⟨Q, hQ⟩ : ∃ Q, N / 100 ^ k = Q := ⟨_, rfl⟩
            have hQN : (Q : Int) ≤ 9223372036854775807 := by have := Nat.div_le_self N (100 ^ k); rw [hQ] at this; omega
            rw [hQ]
            have HQ := Lib.hid hQ
            obtain ⟨x, hx⟩ : ∃ x : Nat, pdD Q = x := ⟨_, rfl⟩
            have hor : (Q : Int) / 10 % 10 * 16 + (Q : Int) % 10 = (x : Int) := by
              rw [← hx]; unfold pdD; omega
            have hx1 : (x : Int) ≤ 153 := by have := pdD_lt Q; omega
            have HXE := Lib.hid hx
            obtain ⟨cx, fx⟩ := own_cellk HO.out (k := J) (by rw [pdF_len hk]; exact hJM)
            have HO2 := Lib.hid (own_set HO.out (k := J) (y := (x : Int)) (by rw [pdF_len hk]; exact hJM) (by omega) (by omega))
            have hJ0 : (0 : Int) ≤ (J : Int) := by omega
            have hJs2 : (J : Int) < (s : Int) := by omega
            clear hQ hJs hx hj
            go_wp2_with fail
            go_roundw
            case rel => exact ⟨k + 1, (J : Int) - 1, by rw [← pow_div, HQ.out]; go_num, by first | rfl | go_num, by have := HJ.out; omega, by omega, Lib.hid (by have h := HO2.out; rw [HJ.out, ← HXE.out, ← HQ.out, pdF_set (by omega)] at h; rw [← HQ.out] at HXE; rw [HJ.out, ← HXE.out]; exact h), Lib.hid (HB.out.setCell (p := ⟨w.heap.size, J, none⟩) (Nat.le_refl _) _), Lib.hid (by simpa [World.setCell] using HS.out)⟩
            case measure => simp [intOf] <;> omega
          · obtain rfl : k = s := by omega
            obtain rfl : j = -1 := by omega
            obtain ⟨Q, hQ⟩ : ∃ Q, N / 100 ^ k = Q := ⟨_, rfl⟩
            rw [hQ]
            have HFQ : Hid (fitB (N : Int) (k : Int) = decide (Q = 0)) := Lib.hid (by
              rw [HFT.out]
              refine decide_eq_decide.2 ?_
              rw [← hQ, Nat.div_eq_zero_iff]
              have : 0 < 100 ^ k := Nat.pow_pos (by decide)
              omega)
            clear hQ
            rw [pdF_all] at HO
            by_cases q0 : Q = 0
            · have p0 : decide (0 < (Q : Int)) = false := decide_eq_false (by omega)
              have p0' : decide (0 < Q) = false := decide_eq_false (by omega)
              have HF : Hid (fitB (N : Int) (k : Int) = true) := Lib.hid (by rw [HFQ.out, decide_eq_true q0])
              have hbl : Below w.heap.size w (wr.alloc (.cells #[] 5)) := HB.out.alloc HB.out.size _
              have HBL := Lib.hid hbl
              have HHA := Lib.hid (HA.out.has.below hbl)
              clear q0 hbl
              go_wp2_with (first
                | (at_builtin; refine wpList_append_has rfl (.tmp 43) (.tmp 44) 22 rfl w.heap.size 5 i0 _ 1 Try.underlying22 hi0 hz0 hz1 hz2 rfl (.slice (some ⟨wr.heap.size, 0, none⟩) 0 0) 0 [] rfl (own_mono (own_lit wr 5) HB.out.size) A m c (C8 l) rfl HHA.out (by unfold maxLen; omega) (by omega) HBL.out.size ?_; intro v2 w2 q1 q2; have HO2 : Hid (Own w2 w.heap.size (.slice (some ⟨w.heap.size, 0, none⟩) k k) (pdL N k)) := Lib.hid ⟨(HO.out.1.alloc _).kept q2 (.inr (fun e => by have h0 := HS.out; have h2 : w.heap.size = wr.heap.size := (by simpa [Value.ownBlock] using e); omega)), HO.out.2⟩; have HV2 := Lib.hid q1; have HB2 : Hid (Below w.heap.size w w2) := Lib.hid (HBL.out.grown q2 HBL.out.size (fun g hg => by have h0 := HS.out; obtain rfl : wr.heap.size = g := (by simpa [Value.ownBlock] using hg); exact Nat.le_of_lt h0)); clear q1 q2)
                | (at_builtin; refine wpList_append_has rfl (.tmp 45) (.tmp 46) 22 rfl w.heap.size 5 i0 _ 1 Try.underlying22 hi0 hz0 hz1 hz2 rfl v2 _ _ rfl HV2.out (some ⟨w.heap.size, 0, none⟩) k k (C8 (pdL N k)) rfl (by have h := (has_own HO2.out.1 (C8_one _)).2; rw [pd_len] at h; exact h) (by unfold maxLen; omega) (by omega) HB2.out.size ?_; intro v3 w3 q3 q4; have HV3 := Lib.hid q3; have HB3 : Hid (Below w.heap.size w w3) := Lib.hid (HB2.out.grown q4 HB2.out.size (fun g hg => (HV2.out.lt g hg).1)); clear q3 q4))
              go_ret2
              have hlen := HA.out.len
              exact ⟨_, by rw [HF.out]; rfl, by rw [HF.out, if_pos rfl]; exact ⟨by have h := HV3.out; rw [List.nil_append, ← C8_app, Nat.zero_add] at h; rw [List.length_append, hlen, Int.toNat_natCast, Int.toNat_natCast, pd_len]; exact h, ran_app HA.out.ran (pd_ran _ _)⟩, HB3.out⟩
            · have p0 : decide (0 < (Q : Int)) = true := decide_eq_true (by omega)
              have p0' : decide (0 < Q) = true := decide_eq_true (by omega)
              have HF : Hid (fitB (N : Int) (k : Int) = false) := Lib.hid (by rw [HFQ.out, decide_eq_false q0])
              clear q0
              go_wp2_with fail
              go_ret2
              exact ⟨_, by rw [HF.out]; rfl, by rw [HF.out]; exact own_none _ _, HB.out⟩
      · have e0 : decide (n < 0) = true := decide_eq_true (by omega)
        have hf : fitB n (s : Int) = false := by
          rw [← Bool.not_eq_true]; intro h; obtain ⟨_, _, h3, _⟩ := fit_iff.1 h; omega
        have HF := Lib.hid hf
        clear hA hno hf n0 s1 s9
        go_enter Try.func10, Try.ntmps10
        go_wp2_with fail
        go_ret2
        exact HNO.out HF.out _ (Below.refl _ _)
    · have d9 : decide (9 < size) = true := decide_eq_true (by omega)
      have hf : fitB n size = false := by
        rw [← Bool.not_eq_true]; intro h; obtain ⟨_, h2, _⟩ := fit_iff.1 h; omega
      have HF := Lib.hid hf
      clear hA hno hf s1 s9
      go_enter Try.func10, Try.ntmps10
      go_wp2_with fail
      go_ret2
      exact HNO.out HF.out _ (Below.refl _ _)
  · have d1 : decide (size < 1) = true := decide_eq_true (by omega)
    have hf : fitB n size = false := by
      rw [← Bool.not_eq_true]; intro h; obtain ⟨h1, _⟩ := fit_iff.1 h; omega
    have HF := Lib.hid hf
    clear hA hno hf s1
    go_enter Try.func10, Try.ntmps10
    go_wp2_with fail
    go_ret2
    exact HNO.out HF.out _ (Below.refl _ _)
end Go.Proofs.Ytblhpbheejemnaa
