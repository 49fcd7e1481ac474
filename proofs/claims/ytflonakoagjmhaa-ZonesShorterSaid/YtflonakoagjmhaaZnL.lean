/- Walk: lookUp. -/
import Derived.Test.YtflonakoagjmhaaZnS
import Derived.Deep.QuietTactic
import Derived.BigQuiet
namespace Go.Proofs.Ytflonakoagjmhaa.Zn
open Go Go.Maps Go.RowKit

def StrOut (l : Wd) (w : World) (e : Ending) (w' : World) : Prop := ∃ v : ByteArray, e = .returned (.string v) ∧ v.data.toList = l ∧ v.size ≤ maxLen ∧ w = w'
theorem ext_take (s : ByteArray) (k : Nat) : (s.extract 0 k).data.toList = s.data.toList.take k := by
  simp [ByteArray.data_extract]
set_option maxRecDepth 100000 in
set_option maxHeartbeats 4000000 in
theorem lookUp_any {w : World} {b n : Nat} {L : List (Wd × Wd)} (h : SMap w b n L) (s : ByteArray) (hs : s.size ≤ maxLen) :
    Calls Try.prog 29 #[.map (some b), .string s] w (StrOut (lk (val L) s.data.toList) w) := by
  have HM := Lib.hid h
  have HS := Lib.hid hs
  unfold maxLen at hs
  clear h
  go_enter Try.func29, Try.ntmps29
  go_wp2
  go_loop [5] (fun iv => ∃ k : Nat, iv = .int .i64 k ∧ k ≤ s.size ∧ Hid (lk (val L) s.data.toList = lkN (val L) s.data.toList k)) (fun iv => (intOf iv).toNat)
  case atStart => exact ⟨s.size, rfl, Nat.le_refl _, Lib.hid (by unfold lk; simp)⟩
  case round =>
    obtain ⟨k, rfl, hk, HR⟩ := hrel
    by_cases hlt : 0 < k
    · obtain ⟨j, rfl⟩ : ∃ j, k = j + 1 := ⟨k - 1, by omega⟩
      obtain ⟨p, hp⟩ : ∃ p, s.extract 0 (j + 1) = p := ⟨_, rfl⟩
      have hpt : p.data.toList = s.data.toList.take (j + 1) := by rw [← hp, ext_take]
      obtain ⟨v, hrun, hv, hvs⟩ := HM.out.look_ok p (by rw [← hp]; simp only [ByteArray.size_extract]; have := HS.out; omega)
      rw [hpt] at hrun hv
      have hst : lkN (val L) s.data.toList (j + 1) = match val L (s.data.toList.take (j + 1)) with | some z => z | none => lkN (val L) s.data.toList j := rfl
      have d0 : decide ((0 : Int) < ((j + 1 : Nat) : Int)) = true := decide_eq_true (by omega)
      have HP := Lib.hid hpt; have HVS := Lib.hid hvs
      cases hf : val L (s.data.toList.take (j + 1)) with
      | some z =>
        rw [hf] at hrun hv hst
        have HV : Hid (v.data.toList = lk (val L) s.data.toList) := Lib.hid (by rw [HR.out, hst, hv]; rfl)
        simp only [Option.isSome_some] at hrun
        clear hf hst hv hvs hpt
        go_wp2
        go_ret
        exact ⟨v, rfl, HV.out, HVS.out, rfl⟩
      | none =>
        rw [hf] at hrun hv hst
        have HN : Hid (lk (val L) s.data.toList = lkN (val L) s.data.toList j) := Lib.hid (by rw [HR.out, hst])
        simp only [Option.isSome_none] at hrun
        clear hf hst hv hvs hpt
        go_wp2
        go_round
        case rel => exact ⟨j, by go_num, by omega, HN⟩
        case measure => simp [intOf] <;> omega
    · obtain rfl : k = 0 := by omega
      go_wp2
      go_ret
      exact ⟨⟨#[]⟩, rfl, by rw [HR.out]; rfl, by decide, rfl⟩
end Go.Proofs.Ytflonakoagjmhaa.Zn
