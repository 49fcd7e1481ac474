/- Walks: greatest, appendDecimal. -/
import Derived.Test.YtblhpbheejemnaaPkK
import Derived.Test.YtblhpbheejemnaaDigM
namespace Go.Proofs.Ytblhpbheejemnaa
open Go.RowKit

theorem pow_le9 {k : Nat} (h : k ≤ 8) : (100 : Nat) ^ k ≤ 10000000000000000 := by
  have := Nat.pow_le_pow_right (n := 100) (by decide) h
  rwa [show (100 : Nat) ^ 8 = 10000000000000000 by decide] at this
theorem greatest_any (s : Nat) (h : s ≤ 9) (w : World) : Calls Try.prog 22 #[.int .i64 s] w fun e w' => e = .returned (.int .i64 (((100 ^ s : Nat) : Int) - 1)) ∧ w = w' := by
  go_enter Try.func22, Try.ntmps22
  go_wp2_with fail
  go_loopw [3, 5] (fun v iv wr => ∃ k p : Nat, v = .int .i64 p ∧ iv = .int .i64 k ∧ k ≤ s ∧ Hid (100 ^ k = p) ∧ 1 ≤ p ∧ w = wr) (fun _ iv _ => s - (intOf iv).toNat)
  case atStart => exact ⟨0, 1, rfl, rfl, by omega, Lib.hid rfl, by omega, by first | rfl | trivial⟩
  case round =>
    obtain ⟨k, p, rfl, rfl, hk, HP, hp1, rfl⟩ := hrel
    by_cases hlt : k < s
    · have hlt' : (k : Int) < (s : Int) := by omega
      have hp8 : p ≤ 10000000000000000 := by rw [← HP.out]; exact pow_le9 (by omega)
      have hk9 : k ≤ 8 := by omega
      go_wp2_with fail
      go_roundw
      case rel => exact ⟨k + 1, p * 100, by go_num, by go_num, by omega, Lib.hid (by rw [Nat.pow_succ, HP.out]), by omega, by first | rfl | trivial⟩
      case measure => simp [intOf]; omega
    · obtain rfl : k = s := by omega
      have hp8 : p ≤ 1000000000000000000 := by
        rw [← HP.out]
        have := Nat.pow_le_pow_right (n := 100) (by decide) h
        rwa [show (100 : Nat) ^ 9 = 1000000000000000000 by decide] at this
      go_wp2_with fail
      go_ret
      exact ⟨ret_int (by rw [HP.out]), rfl⟩
theorem tq (N d : Nat) : Int.tdiv (N : Int) (d : Int) = ((N / d : Nat) : Int) := rfl
theorem own_app {w : World} {base : Nat} {v : Value} {m n : Nat} {L K : List Int} (h : w.ownsRow base 5 1 v (m + n) (C8 L ++ C8 K)) (hL : L.length = m) (hK : K.length = n) (h1 : ∀ x ∈ L, 0 ≤ x ∧ x ≤ 255) (h2 : ∀ x ∈ K, 0 ≤ x ∧ x ≤ 255) : Own w base v (L ++ K) :=
  ⟨by rw [C8_app, List.length_append, hL, hK]; exact h, ran_app h1 h2⟩
theorem set_back {L K : List Int} {m i : Nat} {x : Int} (hL : L.length = m) : (L ++ K).set (m + i) x = L ++ K.set i x := by
  subst hL
  rw [List.set_append_right _ _ (by omega)]
  simp
theorem own_some {w : World} {base : Nat} {v : Value} {L : List Int} (h : Own w base v L) (hL : 0 < L.length) : ∃ g c, v = .slice (some ⟨g, 0, none⟩) L.length c ∧ base ≤ g ∧ g < w.heap.size ∧ L.length ≤ c := by
  obtain ⟨A, c, rfl, hc, hA⟩ := own_form h.1
  obtain ⟨g, rfl, h1, h2, _⟩ := hA hL
  exact ⟨g, c, rfl, h1, h2, hc⟩
set_option maxRecDepth 100000 in
set_option maxHeartbeats 4000000 in
theorem appDec_any (v : Value) (base m N size : Nat) (L : List Int) (w : World) (hv : Apt w base 5 v m (C8 L)) (hr : ∀ x ∈ L, 0 ≤ x ∧ x ≤ 255) (h1 : 1 ≤ size) (h9 : size ≤ 9) (hN : N ≤ 9223372036854775807) (h6 : m ≤ 1000) (hbase : base ≤ w.heap.size) :
    Calls Try.prog 23 #[v, .int .i64 N, .int .i64 size] w (Gives w base (L ++ pdL N size)) := by
  obtain ⟨i0, hi0, hz0, hz1, hz2⟩ := info_parts byteInfo
  have hm : L.length = m := by have := hv.len; rwa [C8_len] at this
  have HV := Lib.hid hv; have HR := Lib.hid hr; have HM := Lib.hid hm
  have HBA := Lib.hid hbase
  obtain ⟨M, hM⟩ : ∃ M, m + size = M := ⟨_, rfl⟩
  have HMM := Lib.hid hM
  clear hv hr hm hbase
  go_enter Try.func23, Try.ntmps23
  go_wp2_with (at_builtin; refine wpList_append_zeros rfl (.tmp 8) (.tmp 9) 22 3 rfl base 5 i0 .i64 .i64 Try.underlying22 Try.underlying3 hi0 hz0 hz1 hz2 v m (C8 L) size rfl rfl HV.out h1 (by omega) HBA.out ?_; intro v1 w1 q1 q2; have HO1 : Hid (Own w1 base v1 (L ++ pdF N size 0)) := Lib.hid (by rw [pdF_zero]; exact own_app q1 HM.out (by simp) HR.out (zeros_ran _)); obtain ⟨g, c1, rfl, hg1, hg2, hc1⟩ := own_some HO1.out (by rw [List.length_append, pdF_len (Nat.zero_le _)]; omega); rw [show (L ++ pdF N size 0).length = M by rw [List.length_append, pdF_len (Nat.zero_le _), HM.out, HMM.out]] at HO1 hc1 ⊢; have HB1 := Lib.hid q2; clear q1 q2)
  go_loopw [1, 12] (fun nv iv wr => ∃ k : Nat, nv = .int .i64 ((N / 100 ^ k : Nat) : Int) ∧ iv = .int .i64 k ∧ k ≤ size ∧ Hid (Own wr base (.slice (some ⟨g, 0, none⟩) M c1) (L ++ pdF N size k)) ∧ Hid (Below base w wr)) (fun _ iv _ => size - (intOf iv).toNat)
  case atStart => exact ⟨0, by simp, rfl, by omega, HO1, HB1⟩
  case round =>
    obtain ⟨k, rfl, rfl, hk, HO, HB⟩ := hrel
    by_cases hlt : k < size
    · have hlt' : (k : Int) < (size : Int) := by omega
      obtain ⟨Q, hQ⟩ : ∃ Q, N / 100 ^ k = Q := ⟨_, rfl⟩
      have hQN : Q ≤ 9223372036854775807 := by rw [← hQ]; exact Nat.le_trans (Nat.div_le_self _ _) hN
      rw [hQ]
      have HQ := Lib.hid hQ
      obtain ⟨J, hJ⟩ : ∃ J : Nat, J = m + (size - 1 - k) := ⟨_, rfl⟩
      have HJ := Lib.hid hJ
      have hJM : J < M := by omega
      have hJ2 : (M : Int) - 1 - (k : Int) = (J : Int) := by omega
      have hM1 : (1 : Int) ≤ (M : Int) := by omega
      have hM2 : (M : Int) ≤ 2000 := by omega
      obtain ⟨x, hx⟩ : ∃ x : Nat, pdD Q = x := ⟨_, rfl⟩
      have hor : bits BinOp.or IntKind.i64 ((Q : Int) / 10 % 10 * 16) ((Q : Int) % 10) = (x : Int) := by
        rw [or_two9 _ _ (by omega) (by omega) (by omega) (by omega), ← hx]; unfold pdD; omega
      have hx1 : (x : Int) ≤ 153 := by have := pdD_lt Q; omega
      have HXE := Lib.hid hx
      obtain ⟨cx, fx⟩ := own_cellk HO.out (k := J) (by rw [List.length_append, pdF_len hk, HM.out, HMM.out]; exact hJM)
      have HO2 := Lib.hid (own_set HO.out (k := J) (y := (x : Int)) (by rw [List.length_append, pdF_len hk, HM.out, HMM.out]; exact hJM) (by omega) (by omega))
      clear hM hQ hJ hx
      go_wp2_with fail
      go_roundw
      case rel => exact ⟨k + 1, by rw [← pow_div, HQ.out]; go_num, by go_num, by omega, Lib.hid (by have h := HO2.out; rw [HJ.out, set_back HM.out, ← HXE.out, ← HQ.out, pdF_set (by omega)] at h; rw [← HQ.out] at HXE; rw [HJ.out, ← HXE.out]; exact h), Lib.hid (HB.out.setCell (p := ⟨g, J, none⟩) (by omega) _)⟩
      case measure => simp [intOf]; omega
    · obtain rfl : k = size := by omega
      go_wp2_with fail
      go_ret
      exact ⟨_, rfl, by have := HO.out; rw [pdF_all] at this; exact this, HB.out⟩
end Go.Proofs.Ytblhpbheejemnaa
