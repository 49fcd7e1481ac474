/- Walks of the reference: Skip, Source. -/
import Derived.Test.YtkdimbpmgngajaaDoorLxL3
namespace Go.Proofs.YtkdimbpmgngajaaDoor.Lx
open Go Go.Lib Go.RowKit Go.Proofs.YtkdimbpmgngajaaDoor Go.Maps

section
variable {s : ByteArray} {k : Nat}
theorem sk_com (h : k < s.size) (h2 : (s[k] == 35) = true) : skp false (s.data.toList.drop k) = skp true (s.data.toList.drop k) := by
  have h3 : (s[k] == 10) = false := by rw [eq_of_beq h2]; decide
  rw [drop_at h]
  show (if (s[k] == 35) = true then skp true (s.data.toList.drop (k + 1)) else _) = (if (s[k] == 10) = true then _ else skp true (s.data.toList.drop (k + 1)))
  rw [h2, h3]; rfl
theorem sk_step (h : k < s.size) (h1 : (s[k] == 35) = false) (h2 : blkB s[k] = true) : skp false (s.data.toList.drop k) = skp false (s.data.toList.drop (k + 1)) := by
  rw [drop_at h, skp, h1, if_neg (by decide), if_pos h2]
theorem sk_stop (h : k < s.size) (h1 : (s[k] == 35) = false) (h2 : blkB s[k] = false) : skp false (s.data.toList.drop k) = s.data.toList.drop k := by
  rw [drop_at h, skp, h1, if_neg (by decide), h2, if_neg (by decide)]
theorem sk_in (h : k < s.size) (h1 : (s[k] == 10) = false) : skp true (s.data.toList.drop k) = skp true (s.data.toList.drop (k + 1)) := by
  rw [drop_at h, skp, h1, if_neg (by decide)]
theorem sk_nl (h : k < s.size) (h1 : (s[k] == 10) = true) : skp true (s.data.toList.drop k) = skp false (s.data.toList.drop k) := by
  have h3 : (s[k] == 35) = false := by rw [eq_of_beq h1]; decide
  have h4 : blkB s[k] = true := by rw [eq_of_beq h1]; decide
  rw [sk_step h h3 h4, drop_at h, skp, if_pos h1]
theorem sk_end (c : Bool) : skp c (s.data.toList.drop s.size) = [] := by
  rw [List.drop_of_length_le (by simp)]; cases c <;> rfl
theorem dr_len (h : k ≤ s.size) : (s.data.toList.drop k).length = s.size - k := by simp
end
theorem ret_int {a b : Int} (h : a = b) : Ending.returned (.int .i64 a) = .returned (.int .i64 b) := by rw [h]
set_option maxRecDepth 100000 in
set_option maxHeartbeats 8000000 in
theorem refSkip_any (s : ByteArray) (w : World) (hs : s.size ≤ maxLen) {p : Nat} (hp : p ≤ s.size) : Calls Tryd.prog 16 #[.string s, .int .i64 p] w fun e w' => e = .returned (.int .i64 ((s.size - (skp false (s.data.toList.drop p)).length : Nat) : Int)) ∧ w' = w := by
  unfold maxLen at hs
  obtain ⟨K, hK⟩ : ∃ K, skp false (s.data.toList.drop p) = K := ⟨_, rfl⟩
  rw [hK]
  have HK := Lib.hid hK
  clear hK
  go_enter Tryd.func16, Tryd.ntmps16
  go_wp2_with fail
  go_loopw [1] (fun iv wr => ∃ k : Nat, iv = .int .i64 k ∧ k ≤ s.size ∧ wr = w ∧ Hid (skp false (s.data.toList.drop k) = K)) (fun iv _ => s.size - (RowKit.intOf iv).toNat)
  case atStart => exact ⟨p, rfl, hp, rfl, HK⟩
  case round =>
    obtain ⟨k, rfl, hk, rfl, HS⟩ := hrel
    clear HK
    by_cases hlt : k < s.size
    · have hlt' : (k : Int) < (s.size : Int) := by omega
      have hk0 : (0 : Int) ≤ (k : Int) := by omega
      obtain ⟨c35, hc35⟩ : ∃ x, (s[k] == 35) = x := ⟨_, rfl⟩
      have e35 : ((s[k].toNat : Int) == (35 : Int)) = c35 := hc35 ▸ beq_nat s[k] 35 (by decide)
      have HC := Lib.hid hc35
      clear hc35
      cases c35
      · obtain ⟨b, hb⟩ : ∃ x, blkB s[k] = x := ⟨_, rfl⟩
        have HB := Lib.hid hb
        have e32 : ((s[k].toNat : Int) != (32 : Int)) = !(s[k] == 32) := congrArg not (beq_nat s[k] 32 (by decide))
        have e9 : ((s[k].toNat : Int) != (9 : Int)) = !(s[k] == 9) := congrArg not (beq_nat s[k] 9 (by decide))
        have e10 : ((s[k].toNat : Int) != (10 : Int)) = !(s[k] == 10) := congrArg not (beq_nat s[k] 10 (by decide))
        unfold blkB at hb
        cases b
        · have h1 : (s[k] == 32) = false ∧ (s[k] == 9) = false ∧ (s[k] == 10) = false := by simpa [and_assoc] using hb
          rw [h1.1] at e32; rw [h1.2.1] at e9; rw [h1.2.2] at e10
          have HR : Hid ((k : Int) = ((s.size - K.length : Nat) : Int)) := Lib.hid (by rw [← HS.out, sk_stop hlt HC.out HB.out, dr_len hk]; omega)
          clear hb h1 HS
          go_wp2_with fail
          go_ret
          exact ⟨ret_int HR.out, rfl⟩
        · have HS2 : Hid (skp false (s.data.toList.drop (k + 1)) = K) := Lib.hid (by rw [← HS.out, sk_step hlt HC.out HB.out])
          clear HS
          have h1 : (s[k] == 32) = true ∨ ((s[k] == 32) = false ∧ (s[k] == 9) = true) ∨ ((s[k] == 32) = false ∧ (s[k] == 9) = false ∧ (s[k] == 10) = true) := by
            cases a : (s[k] == 32) <;> cases b : (s[k] == 9) <;> cases c : (s[k] == 10) <;> simp [a, b, c] at hb ⊢
          clear hb
          rcases h1 with h1 | ⟨h1, h2⟩ | ⟨h1, h2, h3⟩
          · rw [h1] at e32
            clear h1 e9 e10
            go_wp2_with fail
            go_roundw
            case rel => exact ⟨k + 1, by go_num, by omega, by simp, HS2⟩
            case measure => simp [RowKit.intOf]; omega
          · rw [h1] at e32; rw [h2] at e9
            clear h1 h2 e10
            go_wp2_with fail
            go_roundw
            case rel => exact ⟨k + 1, by go_num, by omega, by simp, HS2⟩
            case measure => simp [RowKit.intOf]; omega
          · rw [h1] at e32; rw [h2] at e9; rw [h3] at e10
            clear h1 h2 h3
            go_wp2_with fail
            go_roundw
            case rel => exact ⟨k + 1, by go_num, by omega, by simp, HS2⟩
            case measure => simp [RowKit.intOf]; omega
      · have HI : Hid (skp true (s.data.toList.drop k) = K) := Lib.hid (by rw [← HS.out, sk_com hlt HC.out])
        clear HS
        go_wp2_with fail
        go_loopw [1] (fun iv wr' => ∃ j : Nat, iv = .int .i64 j ∧ k ≤ j ∧ j ≤ s.size ∧ wr' = wr ∧ Hid (skp true (s.data.toList.drop j) = K)) (fun iv _ => s.size - (RowKit.intOf iv).toNat)
        case atStart => exact ⟨k, rfl, Nat.le_refl _, hk, rfl, HI⟩
        case round =>
          obtain ⟨j, rfl, hkj, hj, rfl, HJ⟩ := hrel
          clear HI
          by_cases hjt : j < s.size
          · have hjt' : (j : Int) < (s.size : Int) := by omega
            have hj0 : (0 : Int) ≤ (j : Int) := by omega
            obtain ⟨x, hx⟩ : ∃ x, (s[j] == 10) = x := ⟨_, rfl⟩
            have e10 : ((s[j].toNat : Int) != (10 : Int)) = !x := hx ▸ congrArg not (beq_nat s[j] 10 (by decide))
            have HX := Lib.hid hx
            clear hx
            cases x
            · have HJ2 : Hid (skp true (s.data.toList.drop (j + 1)) = K) := Lib.hid (by rw [← HJ.out, sk_in hjt HX.out])
              clear e35
              go_wp2_with fail
              go_roundw
              case rel => exact ⟨j + 1, by go_num, by omega, by omega, by simp, HJ2⟩
              case measure => simp [RowKit.intOf]; omega
            · have hne : k ≠ j := by
                rintro rfl
                have h1 := HC.out
                rw [eq_of_beq HX.out] at h1
                exact absurd h1 (by decide)
              clear e35
              go_wp2_with fail
              go_roundw
              case rel => exact ⟨j, by go_num, by omega, by simp, Lib.hid (by rw [← HJ.out, sk_nl hjt HX.out])⟩
              case measure => simp [RowKit.intOf]; omega
          · obtain rfl : j = s.size := by omega
            have hd : decide ((s.size : Int) < (s.size : Int)) = false := decide_eq_false (by omega)
            clear e35
            go_wp2_with fail
            go_roundw
            case rel => exact ⟨s.size, by go_num, by omega, by simp, Lib.hid (by rw [← HJ.out, sk_end, sk_end])⟩
            case measure => simp [RowKit.intOf]; omega
    · obtain rfl : k = s.size := by omega
      have hd : decide ((s.size : Int) < (s.size : Int)) = false := decide_eq_false (by omega)
      have HR : Hid ((s.size : Int) = ((s.size - K.length : Nat) : Int)) := Lib.hid (by rw [← HS.out, sk_end]; simp)
      clear HS
      go_wp2_with fail
      go_ret
      exact ⟨ret_int HR.out, rfl⟩
end Go.Proofs.YtkdimbpmgngajaaDoor.Lx
