/- Walks: the reference's kind and Value. -/
import Derived.Test.YtokdfdinnaghmaaDoorTxWd
import Derived.Test.YtokdfdinnaghmaaDoorTxR
namespace Go.Proofs.YtokdfdinnaghmaaDoor.Tx
open Go Go.Lib Go.RowKit

theorem kind_no4 {x : ByteArray} (h1 : x ≠ ⟨#[118]⟩) (h2 : x ≠ ⟨#[116]⟩) (h3 : x ≠ ⟨#[100]⟩) (h4 : x ≠ ⟨#[99]⟩) : kindW x.data.toList = 0 := by
  unfold kindW
  rw [if_neg (fun e => h1 (ba_eq (y := ⟨#[118]⟩) e)), if_neg (fun e => h2 (ba_eq (y := ⟨#[116]⟩) e)), if_neg (fun e => h3 (ba_eq (y := ⟨#[100]⟩) e)), if_neg (fun e => h4 (ba_eq (y := ⟨#[99]⟩) e))]
theorem ne_lit {x : ByteArray} {b : UInt8} (h : x ≠ ⟨#[b]⟩) : (x.toList == [b]) = false := by
  rw [beq_eq_false_iff_ne, ByteArray.toList_eq]
  exact fun e => h (ba_eq (y := ⟨#[b]⟩) e)
set_option maxHeartbeats 4000000 in
theorem refKind_any (x : ByteArray) (w : World) : Calls Tryd.prog 41 #[.string x] w fun e w' => e = .returned (.int .i64 ((kindW x.data.toList : Nat) : Int)) ∧ w' = w := by
  by_cases h1 : x = ⟨#[118]⟩
  · subst h1
    go_enter Tryd.func41, Tryd.ntmps41
    go_wp2
    go_ret
    exact ⟨rfl, rfl⟩
  by_cases h2 : x = ⟨#[116]⟩
  · subst h2
    clear h1
    go_enter Tryd.func41, Tryd.ntmps41
    go_wp2
    go_ret
    exact ⟨rfl, rfl⟩
  by_cases h3 : x = ⟨#[100]⟩
  · subst h3
    clear h1 h2
    go_enter Tryd.func41, Tryd.ntmps41
    go_wp2
    go_ret
    exact ⟨rfl, rfl⟩
  by_cases h4 : x = ⟨#[99]⟩
  · subst h4
    clear h1 h2 h3
    go_enter Tryd.func41, Tryd.ntmps41
    go_wp2
    go_ret
    exact ⟨rfl, rfl⟩
  have HK := Lib.hid (kind_no4 h1 h2 h3 h4)
  have n1 := ne_lit h1
  have n2 := ne_lit h2
  have n3 := ne_lit h3
  have n4 := ne_lit h4
  clear h1 h2 h3 h4
  go_enter Tryd.func41, Tryd.ntmps41
  go_wp2
  go_ret
  exact ⟨congrArg (fun z : Nat => Ending.returned (.int .i64 (z : Int))) HK.out.symm, rfl⟩
/-- The number of a word; -1 if it is none. -/
def vZ (l : Wd) : Int := if numW l = true then (valW l : Int) else -1
theorem vZ_no {l : Wd} (h : numW l = false) : vZ l = -1 := by unfold vZ; rw [h]; rfl
theorem vZ_yes {l : Wd} (h : numW l = true) : vZ l = valW l := by unfold vZ; rw [if_pos h]
theorem val_next {s : ByteArray} {p : Nat} (h : p < s.size) : valW (s.data.toList.take (p + 1)) = valW (s.data.toList.take p) * 10 + (s[p].toNat - 48) := by
  have hl : p < s.data.toList.length := by simpa using h
  rw [List.take_succ_eq_append_getElem hl, valW_snoc]
  rfl
theorem val_all (s : ByteArray) : valW (s.data.toList.take s.size) = valW s.data.toList := by rw [List.take_of_length_le (by simp)]
set_option maxHeartbeats 8000000 in
theorem value_any (s : ByteArray) (w : World) (hs : s.size ≤ maxLen) : Calls Tryd.prog 42 #[.string s] w fun e w' => e = .returned (.int .i64 (vZ s.data.toList)) ∧ w' = w := by
  unfold maxLen at hs
  by_cases h0 : s.size = 0
  · obtain rfl : s = ByteArray.empty := by simpa using h0
    rw [vZ_no nwd_empty]
    go_enter Tryd.func42, Tryd.ntmps42
    go_wp2
    go_ret
    exact ⟨rfl, rfl⟩
  have hp : 0 < s.size := by omega
  have d0 : decide ((s.size : Int) < 1) = false := decide_eq_false (by omega)
  by_cases h15 : 15 < s.size
  · have d1 : decide (15 < (s.size : Int)) = true := decide_eq_true (by omega)
    rw [vZ_no (nwd_long h15)]
    clear h15
    go_enter Tryd.func42, Tryd.ntmps42
    go_wp2
    go_ret
    exact ⟨rfl, rfl⟩
  have d1 : decide (15 < (s.size : Int)) = false := decide_eq_false (by omega)
  obtain ⟨c, hc⟩ : ∃ c : Int, (s[0].toNat : Int) = c := ⟨_, rfl⟩
  by_cases hz : s[0] = 48 ∧ s.size ≠ 1
  · rw [vZ_no (nwd_zero hp hz.1 hz.2)]
    have e1 : ((s[0].toNat : Int) == 48) = true := by rw [hz.1]; rfl
    have e2 : decide (1 < (s.size : Int)) = true := decide_eq_true (by omega)
    clear hz hc h15
    go_enter Tryd.func42, Tryd.ntmps42
    go_wp2
    go_ret
    exact ⟨rfl, rfl⟩
  have HZ : Hid (s[0] = 48 → s.size = 1) := Lib.hid fun h => Decidable.byContradiction fun k => hz ⟨h, k⟩
  have H15 : Hid (s.size ≤ 15) := Lib.hid (by omega)
  have h15' : s.size ≤ 15 := by omega
  have hq : ((((s[0].toNat : Int) == 48) = false) ∨ (((s[0].toNat : Int) == 48) = true ∧ decide (1 < (s.size : Int)) = false)) := by
    by_cases h : s[0] = 48
    · exact .inr ⟨by rw [h]; rfl, decide_eq_false (by have := HZ.out h; omega)⟩
    · refine .inl ?_
      rw [beq_eq_false_iff_ne]
      exact fun e => h (UInt8.toNat.inj (by have h2 : (s[0].toNat : Int) = ((48 : UInt8).toNat : Int) := e; omega))
  clear hz hc h15
  rcases hq with e1 | ⟨e1, e2⟩
  all_goals
    go_enter Tryd.func42, Tryd.ntmps42
    go_wp2
    go_loopw [3, 4] (fun nv iv wr => ∃ pos n : Nat, wr = w ∧ nv = .int .i64 n ∧ iv = .int .i64 pos ∧ pos ≤ s.size ∧ Hid (n = valW (s.data.toList.take pos)) ∧ n < 1000000000000000 ∧ Hid (n < 10 ^ pos) ∧ Hid (∀ k (hk : k < s.size), k < pos → dgB s[k] = true)) (fun _ iv _ => ((s.size : Int) - intOf iv).toNat)
    case atStart => exact ⟨0, 0, rfl, rfl, rfl, by omega, Lib.hid rfl, by omega, Lib.hid (by decide), Lib.hid fun k _ h => absurd h (Nat.not_lt_zero k)⟩
    case round =>
      obtain ⟨pos, n, rfl, rfl, rfl, hps, HV, hn, HN, HA⟩ := hrel
      rcases Nat.lt_or_eq_of_le hps with hlt | rfl
      · have l0 : decide ((pos : Int) < (s.size : Int)) = true := decide_eq_true (by omega)
        cases hd : dgB s[pos]
        · have HX := Lib.hid (vZ_no (nwd_not hlt hd))
          unfold dgB at hd
          simp at hd
          by_cases h48 : s[pos].toNat < 48
          · have k1 : decide ((s[pos].toNat : Int) < 48) = true := decide_eq_true (by omega)
            clear hd h48
            go_wp2
            go_ret
            exact ⟨congrArg (fun z => Ending.returned (.int .i64 z)) HX.out.symm, rfl⟩
          · have k1 : decide ((s[pos].toNat : Int) < 48) = false := decide_eq_false (by omega)
            have k2 : decide (57 < (s[pos].toNat : Int)) = true := decide_eq_true (by omega)
            clear hd h48
            go_wp2
            go_ret
            exact ⟨congrArg (fun z => Ending.returned (.int .i64 z)) HX.out.symm, rfl⟩
        · have HA2 : Hid (∀ k (hk : k < s.size), k < pos + 1 → dgB s[k] = true) := Lib.hid fun k hk h => by
            rcases Nat.lt_or_ge k pos with h | h
            · exact HA.out k hk h
            · obtain rfl : k = pos := by omega
              exact hd
          unfold dgB at hd
          simp at hd
          obtain ⟨r, hr⟩ : ∃ r : Nat, s[pos].toNat = r := ⟨_, rfl⟩
          have HV2 := Lib.hid (val_next (s := s) hlt)
          rw [hr] at hd HV2
          have k1 : decide ((s[pos].toNat : Int) < 48) = false := decide_eq_false (by omega)
          have k2 : decide (57 < (s[pos].toNat : Int)) = false := decide_eq_false (by omega)
          have HN2 : Hid (n * 10 + (r - 48) < 10 ^ (pos + 1)) := Lib.hid (by have := HN.out; rw [Nat.pow_succ]; omega)
          have hn2 : n * 10 + (r - 48) < 1000000000000000 := Nat.lt_of_lt_of_le HN2.out (show 10 ^ (pos + 1) ≤ 10 ^ 15 from Nat.pow_le_pow_right (by decide) (by omega))
          go_wp2
          go_roundw
          case rel => exact ⟨pos + 1, n * 10 + (r - 48), by trivial, congrArg (fun z : Int => Value.int .i64 z) (by omega), congrArg (fun z : Int => Value.int .i64 z) (by omega), by omega, Lib.hid (by rw [HV2.out, ← HV.out]), hn2, HN2, HA2⟩
          case measure => simp [intOf]; omega
      · have l0 : decide ((s.size : Int) < (s.size : Int)) = false := decide_eq_false (by omega)
        have HX := Lib.hid (vZ_yes (nwd_yes hp H15.out HZ.out fun k hk => HA.out k hk hk))
        go_wp2
        go_ret
        exact ⟨congrArg (fun z => Ending.returned (.int .i64 z)) (show (n : Int) = vZ s.data.toList by rw [HX.out, ← val_all, ← HV.out]), rfl⟩
end Go.Proofs.YtokdfdinnaghmaaDoor.Tx
