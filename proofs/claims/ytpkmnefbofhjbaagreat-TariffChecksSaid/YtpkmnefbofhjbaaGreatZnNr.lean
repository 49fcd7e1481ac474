/- Walk of the reference: whether a text is a name. -/
import Derived.Test.YtpkmnefbofhjbaaGreatPdNm
import Derived.Deep.Quiet
namespace Go.Proofs.YtpkmnefbofhjbaaGreat.Pd
open Go.RowKit

theorem nmC_cases (c : UInt8) : (nmC c = true ∧ ((decide (97 ≤ (c.toNat : Int)) = true ∧ decide ((c.toNat : Int) ≤ 122) = true ∧ decide (48 ≤ (c.toNat : Int)) = true ∧ decide ((c.toNat : Int) ≤ 57) = false) ∨
      (decide (97 ≤ (c.toNat : Int)) = false ∧ decide (48 ≤ (c.toNat : Int)) = true ∧ decide ((c.toNat : Int) ≤ 57) = true) ∨ (decide (97 ≤ (c.toNat : Int)) = false ∧ decide (48 ≤ (c.toNat : Int)) = false ∧ ((c.toNat : Int) != 45) = false))) ∨
    (nmC c = false ∧ ((decide (97 ≤ (c.toNat : Int)) = true ∧ decide ((c.toNat : Int) ≤ 122) = false ∧ decide (48 ≤ (c.toNat : Int)) = true ∧ decide ((c.toNat : Int) ≤ 57) = false ∧ ((c.toNat : Int) != 45) = true) ∨
      (decide (97 ≤ (c.toNat : Int)) = false ∧ decide (48 ≤ (c.toNat : Int)) = true ∧ decide ((c.toNat : Int) ≤ 57) = false ∧ ((c.toNat : Int) != 45) = true) ∨ (decide (97 ≤ (c.toNat : Int)) = false ∧ decide (48 ≤ (c.toNat : Int)) = false ∧ ((c.toNat : Int) != 45) = true))) := by
  unfold nmC
  simp
  omega
set_option maxHeartbeats 4000000 in
theorem refName_any (s : ByteArray) (w : World) (hs : s.size ≤ maxLen) : Calls Tryz.prog 87 #[.string s] w fun e w' => e = .returned (.bool (nmOk s)) ∧ Below w.heap.size w w' := by
  unfold maxLen at hs
  by_cases h0 : s.size = 0
  · obtain rfl : s = ByteArray.empty := by simpa using h0
    rw [nm_none (.inl rfl)]
    go_enter Tryz.func87, Tryz.ntmps87
    go_wp2
    go_ret
    exact ⟨rfl, Below.refl _ _⟩
  · have hp : 0 < s.size := by omega
    have d0 : decide ((s.size : Int) < 1) = false := decide_eq_false (by omega)
    by_cases h24 : 24 < s.size
    · have d1 : decide (24 < (s.size : Int)) = true := decide_eq_true (by omega)
      rw [nm_none (.inr h24)]
      clear h24
      go_enter Tryz.func87, Tryz.ntmps87
      go_wp2
      go_ret
      exact ⟨rfl, Below.refl _ _⟩
    · have d1 : decide (24 < (s.size : Int)) = false := decide_eq_false (by omega)
      have hl0 : (nmL s[0] = false ∧ decide ((s[0].toNat : Int) < (97 : Int)) = true) ∨ (nmL s[0] = false ∧ decide ((s[0].toNat : Int) < (97 : Int)) = false ∧ decide ((122 : Int) < (s[0].toNat : Int)) = true) ∨
          (nmL s[0] = true ∧ decide ((s[0].toNat : Int) < (97 : Int)) = false ∧ decide ((122 : Int) < (s[0].toNat : Int)) = false) := by
        unfold nmL
        simp
        omega
      rcases hl0 with ⟨hl, d2⟩ | ⟨hl, d2, d3⟩ | ⟨hl, d2, d3⟩
      · have HN := Lib.hid (nm_head hp hl)
        clear hl h24
        go_enter Tryz.func87, Tryz.ntmps87
        go_wp2
        go_ret
        exact ⟨ret_bool HN.out.symm, Below.refl _ _⟩
      · have HN := Lib.hid (nm_head hp hl)
        clear hl h24
        go_enter Tryz.func87, Tryz.ntmps87
        go_wp2
        go_ret
        exact ⟨ret_bool HN.out.symm, Below.refl _ _⟩
      · have HL0 := Lib.hid hl
        have H24 := Lib.hid h24
        clear hl h24
        go_enter Tryz.func87, Tryz.ntmps87
        go_wp2
        clear d0 d1 d2 d3
        go_loopw [3] (fun iv w' => ∃ (k q : Nat), iv = .int .i64 k ∧ w' = w.drewN q ∧ k ≤ s.size ∧ Hid (∀ j (hj : j < s.size), j < k → nmC s[j] = true)) (fun iv _ => s.size - (intOf iv).toNat)
        case atStart => exact ⟨0, 0, rfl, rfl, by omega, Lib.hid fun k _ h => absurd h (Nat.not_lt_zero k)⟩
        case round =>
          obtain ⟨k, q, rfl, rfl, hk, HA⟩ := hrel
          by_cases hlt : k < s.size
          · have hlt' : (k : Int) < (s.size : Int) := by omega
            rcases nmC_cases s[k] with ⟨hc, hr⟩ | ⟨hc, hr⟩
            · have HA2 : Hid (∀ j (hj : j < s.size), j < k + 1 → nmC s[j] = true) := Lib.hid fun j hj h => by
                rcases Nat.lt_or_ge j k with h | h
                · exact HA.out j hj h
                · obtain rfl : j = k := by omega
                  exact hc
              clear hc HA
              rcases hr with ⟨c1, c2, c3, c4⟩ | ⟨c1, c2, c3⟩ | ⟨c1, c2, c3⟩
              all_goals
                go_wp2_with fail
                go_quiet (fail)
                go_wp2_with fail
                go_roundw
                case rel => exact ⟨k + 1, _, by go_num, rfl, by omega, HA2⟩
                case measure => simp [intOf]; omega
            · have HN := Lib.hid (nm_not hlt hc)
              clear hc HA
              rcases hr with ⟨c1, c2, c3, c4, c5⟩ | ⟨c1, c2, c3, c4⟩ | ⟨c1, c2, c3⟩
              all_goals
                go_wp2_with fail
                go_quiet (fail)
                go_wp2_with fail
                go_ret
                exact ⟨ret_bool HN.out.symm, below_drewN (Below.refl _ _) _⟩
          · obtain rfl : k = s.size := by omega
            have HY := Lib.hid (nm_yes hp (by have := H24.out; omega) HL0.out fun k hk => HA.out k hk hk)
            clear HA
            go_wp2
            go_ret
            exact ⟨ret_bool HY.out.symm, below_drewN (Below.refl _ _) _⟩
end Go.Proofs.YtpkmnefbofhjbaaGreat.Pd
