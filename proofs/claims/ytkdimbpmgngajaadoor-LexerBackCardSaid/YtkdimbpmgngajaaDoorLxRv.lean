/- Walk of the reference: Value. -/
import Derived.Test.YtkdimbpmgngajaaDoorLxRk
namespace Go.Proofs.YtkdimbpmgngajaaDoor.Lx
open Go Go.Lib Go.RowKit Go.Proofs.YtkdimbpmgngajaaDoor Go.Maps

theorem valD_snoc (l : Wd) (b : UInt8) : valD (l ++ [b]) = 10 * valD l + (b.toNat - 48) := by
  unfold valD; rw [List.foldl_append]; rfl
theorem take_next {s : ByteArray} {k : Nat} (h : k < s.size) : s.data.toList.take (k + 1) = s.data.toList.take k ++ [s[k]] := by
  rw [List.take_succ_eq_append_getElem (by simpa using h)]; rfl
theorem all_at {q : UInt8 → Bool} {s : ByteArray} (ha : ∀ b ∈ s.data.toList, q b = true) {k : Nat} (h : k < s.size) : q s[k] = true :=
  ha _ (by show s.data[k] ∈ s.data.toList; simp)
theorem pow16 {k : Nat} (h : k ≤ 15) : 10 ^ k ≤ 1000000000000000 := Nat.le_trans (Nat.pow_le_pow_right (by decide) h) (by decide)
set_option maxRecDepth 100000 in
set_option maxHeartbeats 8000000 in
theorem refValue_any (s : ByteArray) (w : World) (hs : s.size ≤ 16) (hd : ∀ b ∈ s.data.toList, digB b = true) : Calls Tryd.prog 14 #[.string s] w fun e w' => e = .returned (.int .i64 ((valD s.data.toList : Nat) : Int)) ∧ w' = w := by
  have HD := Lib.hid hd
  clear hd
  go_enter Tryd.func14, Tryd.ntmps14
  go_wp2_with fail
  go_loopw [4, 3] (fun iv nv wr => ∃ k n : Nat, iv = .int .i64 k ∧ nv = .int .i64 n ∧ k ≤ s.size ∧ wr = w ∧ Hid (n = valD (s.data.toList.take k)) ∧ Hid (n < 10 ^ k)) (fun iv _ _ => s.size - (RowKit.intOf iv).toNat)
  case atStart => exact ⟨0, 0, rfl, rfl, by omega, rfl, Lib.hid rfl, Lib.hid (by decide)⟩
  case round =>
    obtain ⟨k, n, rfl, rfl, hk, rfl, HV, HP⟩ := hrel
    by_cases hlt : k < s.size
    · have hlt' : (k : Int) < (s.size : Int) := by omega
      have hk0 : (0 : Int) ≤ (k : Int) := by omega
      have hk16 : (k : Int) < (16 : Int) := by omega
      have hdig := all_at HD.out hlt
      have h48 : 48 ≤ (s[k].toNat : Nat) ∧ (s[k].toNat : Nat) ≤ 57 := by
        unfold digB at hdig
        simpa using hdig
      have hn9 : n < 1000000000000000 := Nat.lt_of_lt_of_le HP.out (pow16 (by omega))
      obtain ⟨c, hc⟩ : ∃ c, s[k].toNat = c := ⟨_, rfl⟩
      have HC := Lib.hid hc
      rw [hc] at h48
      have hcw : IntKind.u8.wrap ((c : Int) - 48) = (c : Int) - 48 := by unfold IntKind.wrap; simp [IntKind.bits, IntKind.signed]; omega
      have HV2 : Hid (10 * n + (c - 48) = valD (s.data.toList.take (k + 1))) := Lib.hid (by rw [take_next hlt, valD_snoc, ← HV.out, ← HC.out])
      have HP2 : Hid (10 * n + (c - 48) < 10 ^ (k + 1)) := Lib.hid (by have := HP.out; rw [Nat.pow_succ]; omega)
      clear hdig
      go_wp2_with fail
      go_roundw
      case rel =>
        trace_state
        exact ⟨k + 1, 10 * n + (c - 48), by go_num, by first | (congr 1; omega) | (go_num; omega), by omega, by simp, HV2, HP2⟩
      case measure => simp [RowKit.intOf]; omega
    · obtain rfl : k = s.size := by omega
      have hd : decide ((s.size : Int) < (s.size : Int)) = false := decide_eq_false (by omega)
      have HR : Hid (n = valD s.data.toList) := Lib.hid (by rw [HV.out, List.take_of_length_le (by simp)])
      go_wp2_with fail
      go_ret
      exact ⟨ret_int (by rw [HR.out]), rfl⟩
end Go.Proofs.YtkdimbpmgngajaaDoor.Lx
