/- Walks: Quote; equal tokens; how a list of tokens reads. -/
import Derived.Test.YtkdimbpmgngajaaDoorLxX
import Derived.ChangeKeysEq
namespace Go.Proofs.YtkdimbpmgngajaaDoor.Lx
open Go Go.Lib Go.RowKit Go.Proofs.YtkdimbpmgngajaaDoor Go.Maps

/-- A text between double quotes, or nothing. -/
def quoV (s : ByteArray) : ByteArray := if s.size ≤ 200 ∧ s.data.toList.all txtB = true then ⟨#[34]⟩ ++ s ++ ⟨#[34]⟩ else ⟨#[]⟩
theorem all_take {q : UInt8 → Bool} {s : ByteArray} {k : Nat} (h : k < s.size) (ha : (s.data.toList.take k).all q = true) (hb : q s[k] = true) : (s.data.toList.take (k + 1)).all q = true := by
  rw [List.take_succ_eq_append_getElem (by simpa using h), List.all_append, ha]
  simp only [List.all_cons, List.all_nil, Bool.and_true, Bool.true_and]
  exact hb
theorem all_no {q : UInt8 → Bool} {s : ByteArray} {k : Nat} (h : k < s.size) (hb : q s[k] = false) : s.data.toList.all q = false := by
  rw [List.all_eq_false]
  exact ⟨s.data.toList[k]'(by simpa using h), List.getElem_mem _, by show ¬ q s[k] = true; rw [hb]; decide⟩
theorem all_full {q : UInt8 → Bool} {s : ByteArray} (h : (s.data.toList.take s.size).all q = true) : s.data.toList.all q = true := by
  rwa [List.take_of_length_le (by simp)] at h
theorem quo_no {s : ByteArray} (h : ¬ (s.size ≤ 200 ∧ s.data.toList.all txtB = true)) : quoV s = ⟨#[]⟩ := by unfold quoV; rw [if_neg h]
theorem ret_str {a b : ByteArray} (h : a = b) : Ending.returned (.string a) = .returned (.string b) := by rw [h]
set_option maxRecDepth 100000 in
set_option maxHeartbeats 8000000 in
theorem quote_any (s : ByteArray) (w : World) (hs : s.size ≤ maxLen) : Calls Tryd.prog 17 #[.string s] w fun e w' => e = .returned (.string (quoV s)) ∧ w' = w := by
  unfold maxLen at hs
  obtain ⟨V, hV⟩ : ∃ V, quoV s = V := ⟨_, rfl⟩
  have HV := Lib.hid hV
  rw [hV]
  clear hV
  by_cases h2 : 200 < s.size
  · have d0 : decide ((200 : Int) < (s.size : Int)) = true := decide_eq_true (by omega)
    have HR := Lib.hid (quo_no (s := s) (fun h => by omega))
    go_enter Tryd.func17, Tryd.ntmps17
    go_wp2_with fail
    go_ret
    exact ⟨ret_str (by rw [← HV.out, HR.out]), rfl⟩
  · have d0 : decide ((200 : Int) < (s.size : Int)) = false := decide_eq_false (by omega)
    have H2 := Lib.hid h2
    clear h2
    go_enter Tryd.func17, Tryd.ntmps17
    go_wp2_with fail
    clear d0
    go_loopw [9] (fun iv wr => ∃ k : Nat, iv = .int .i64 k ∧ k ≤ s.size ∧ wr = w ∧ Hid ((s.data.toList.take k).all txtB = true)) (fun iv _ => s.size - (RowKit.intOf iv).toNat)
    case atStart => exact ⟨0, rfl, by omega, rfl, Lib.hid rfl⟩
    case round =>
      obtain ⟨k, rfl, hk, rfl, HA⟩ := hrel
      by_cases hlt : k < s.size
      · have hlt' : (k : Int) < (s.size : Int) := by omega
        have hk0 : (0 : Int) ≤ (k : Int) := by omega
        have HQ := Lib.hid (fun W => isQuotable_any s[k] W)
        cases hq : txtB s[k]
        · have HR := Lib.hid (quo_no (s := s) (fun h => by rw [all_no hlt hq] at h; exact absurd h.2 (by decide)))
          rw [hq] at HQ
          clear hq
          go_wp2_with (go_at_call 24; (with_reducible refine (HQ.out _).mono ?_); rintro e w1 ⟨rfl, rfl⟩)
          go_ret
          exact ⟨ret_str (by rw [← HV.out, HR.out]), rfl⟩
        · have HA2 := Lib.hid (all_take hlt HA.out hq)
          rw [hq] at HQ
          clear hq
          go_wp2_with (go_at_call 24; (with_reducible refine (HQ.out _).mono ?_); rintro e w1 ⟨rfl, rfl⟩)
          go_roundw
          case rel => exact ⟨k + 1, by go_num, by omega, by simp, HA2⟩
          case measure => simp [RowKit.intOf]; omega
      · obtain rfl : k = s.size := by omega
        have HR : Hid (quoV s = ⟨#[34]⟩ ++ s ++ ⟨#[34]⟩) := Lib.hid (by unfold quoV; rw [if_pos ⟨by have := H2.out; omega, all_full HA.out⟩])
        have hz1 : (1 : Int) + (s.size : Int) ≤ 9223372036854775807 := by have := H2.out; omega
        have hz2 : (1 : Int) + (s.size : Int) + 1 ≤ 9223372036854775807 := by have := H2.out; omega
        have hz3 : (⟨#[34]⟩ ++ s : ByteArray).size = 1 + s.size := by rw [ByteArray.size_append]; rfl
        go_wp2_with fail
        go_ret
        exact ⟨ret_str (by rw [← HV.out, HR.out]), rfl⟩
end Go.Proofs.YtkdimbpmgngajaaDoor.Lx
