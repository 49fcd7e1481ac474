/- Walks: the parts of a text in the program. -/
import Derived.Test.YtopngdjhnljmfaaDoorRows
import Derived.Test.YtopngdjhnljmfaaDoorAmtParM
import Derived.Test.YtopngdjhnljmfaaDoorShelf
namespace Go.Proofs.YtopngdjhnljmfaaDoor
open Go.RowKit

set_option maxHeartbeats 1000000 in
theorem allDigits_any (s : ByteArray) (w : World) (hs : s.size ≤ maxLen) :
    Calls Tryd.prog 36 #[.string s] w fun e w' => e = .returned (.bool (allD s.data.toList)) ∧ w = w' := by
  unfold maxLen at hs
  go_enter Tryd.func36, Tryd.ntmps36
  go_wp2
  go_loop [6] (fun i => ∃ k : Nat, k ≤ s.size ∧ i = .int .i64 k ∧ (s.data.toList.take k).all dgt = true) (fun i => s.size - (intOf i).toNat)
  case atStart => exact ⟨0, Nat.zero_le _, rfl, rfl⟩
  case round =>
    obtain ⟨k, hk, rfl, hall⟩ := hrel
    have H := Lib.hid hall; clear hall
    by_cases hlt : k < s.size
    · by_cases h1 : (s[k].toNat : Int) < 48
      · go_wp2
        go_ret
        exact ⟨ret_bool (all_not hlt (dgt_lo h1)).symm, rfl⟩
      · by_cases h2 : (57 : Int) < (s[k].toNat : Int)
        · go_wp2
          go_ret
          exact ⟨ret_bool (all_not hlt (dgt_hi h2)).symm, rfl⟩
        · go_wp2
          go_round
          case rel => exact ⟨k + 1, by omega, by go_num, by rw [take_snoc s k hlt, all_snoc, H.out, dgt_mk (by omega) (by omega)]; rfl⟩
          case measure => simp [intOf]; omega
    · obtain rfl : k = s.size := by omega
      have hf : s.data.toList.all dgt = true := by have := H.out; rwa [take_all] at this
      have HF := Lib.hid hf; clear hf H
      go_wp2
      go_ret
      exact ⟨ret_bool HF.out.symm, rfl⟩

set_option maxHeartbeats 1000000 in
theorem isFraction_any (s : ByteArray) (w : World) (hs : s.size ≤ maxLen) :
    Calls Tryd.prog 26 #[.string s] w fun e w' => e = .returned (.bool (fraB s.data.toList)) ∧ w = w' := by
  have hs0 := hs
  unfold maxLen at hs
  by_cases h : s.size = 4
  · have hb : ((s.size : Int) == 4) = true := by simp; omega
    have HF : Hid (allD s.data.toList = fraB s.data.toList) := Lib.hid (by simp [fraB, h])
    clear h
    go_enter Tryd.func26, Tryd.ntmps26
    go_wp2_with (go_at_call 36; refine (allDigits_any _ _ hs0).mono ?_; rintro e w1 ⟨rfl, rfl⟩)
    go_ret
    exact ⟨ret_bool HF.out, rfl⟩
  · have hb : ((s.size : Int) == 4) = false := by simp; omega
    have HF : Hid (false = fraB s.data.toList) := Lib.hid (by simp [fraB, h])
    clear h
    go_enter Tryd.func26, Tryd.ntmps26
    go_wp2
    go_ret
    exact ⟨ret_bool HF.out, rfl⟩

set_option maxHeartbeats 1000000 in
theorem isQuotient_any (s : ByteArray) (w : World) (hs : s.size ≤ maxLen) :
    Calls Tryd.prog 25 #[.string s] w fun e w' => e = .returned (.bool (quoB s.data.toList)) ∧ w = w' := by
  have hs0 := hs
  unfold maxLen at hs
  cases g1 : (s.toList == [48]) with
  | true =>
    have HF : Hid (true = quoB s.data.toList) := Lib.hid (by rw [toList_eq] at g1; simp [quoB, g1])
    go_enter Tryd.func25, Tryd.ntmps25
    go_wp2
    go_ret
    exact ⟨ret_bool HF.out, rfl⟩
  | false =>
    have g1' : (s.data.toList == [48]) = false := by rw [← toList_eq]; exact g1
    cases g2 : allD s.data.toList with
    | false =>
      have HF : Hid (false = quoB s.data.toList) := Lib.hid (by simp only [quoB, g1', g2]; rfl)
      clear g1'
      go_enter Tryd.func25, Tryd.ntmps25
      go_wp2_with (go_at_call 36; refine (allDigits_any _ _ hs0).mono ?_; rintro e w1 ⟨rfl, rfl⟩)
      go_ret
      exact ⟨ret_bool HF.out, rfl⟩
    | true =>
      by_cases g3 : s.size = 0
      · have he : s.data.toList = [] := List.length_eq_zero_iff.1 (by rw [len_data]; exact g3)
        have g4 : s.toList = [] := by rw [toList_eq]; exact he
        have g5 : s.toList.isEmpty = true := by rw [g4]; rfl
        have HF : Hid (false = quoB s.data.toList) := Lib.hid (by rw [he]; rfl)
        clear he g4 g1' g3
        go_enter Tryd.func25, Tryd.ntmps25
        go_wp2_with (go_at_call 36; refine (allDigits_any _ _ hs0).mono ?_; rintro e w1 ⟨rfl, rfl⟩)
        go_ret
        exact ⟨ret_bool HF.out, rfl⟩
      · have hp : 0 < s.size := by omega
        have g5 : s.toList.isEmpty = false := by
          rw [toList_eq]
          cases h : s.data.toList with
          | nil => have := congrArg List.length h; rw [len_data] at this; exact absurd this (by show ¬ s.size = 0; omega)
          | cons => rfl
        have hh : s.data.toList.head? = some s[0] := by
          rw [List.head?_eq_getElem?, List.getElem?_eq_getElem (by rw [len_data]; exact hp)]; rfl
        by_cases g6 : s[0] = 48
        · have g7 : ((s[0].toNat : Int) != 48) = false := by rw [g6]; rfl
          have HF : Hid (false = quoB s.data.toList) := Lib.hid (by
            simp only [quoB, g1', g2, hh, g6]
            simp)
          clear hh g6 g1'
          go_enter Tryd.func25, Tryd.ntmps25
          go_wp2_with (go_at_call 36; refine (allDigits_any _ _ hs0).mono ?_; rintro e w1 ⟨rfl, rfl⟩)
          go_ret
          exact ⟨ret_bool HF.out, rfl⟩
        · have g7 : ((s[0].toNat : Int) != 48) = true := by
            rw [bne_iff_ne]
            exact fun h => g6 (UInt8.toNat_inj.1 (Int.ofNat.inj h))
          have HF : Hid (true = quoB s.data.toList) := Lib.hid (by
            have g8 : s.data.toList.isEmpty = false := by rw [← toList_eq]; exact g5
            have g9 : (some s[0] == some (48 : UInt8)) = false := by simpa using g6
            simp only [quoB, g1', g2, hh, g8, g9]; rfl)
          clear hh g6 g1'
          go_enter Tryd.func25, Tryd.ntmps25
          go_wp2_with (go_at_call 36; refine (allDigits_any _ _ hs0).mono ?_; rintro e w1 ⟨rfl, rfl⟩)
          go_ret
          exact ⟨ret_bool HF.out, rfl⟩

/-- A string cut at the first point, or at the first of whatever byte. -/
def cutA (l : List UInt8) (c : UInt8) : List UInt8 := if 0 ≤ Lib.indexByte l c then l.take (Lib.indexByte l c).toNat else l
def cutB (l : List UInt8) (c : UInt8) : List UInt8 := if 0 ≤ Lib.indexByte l c then l.drop ((Lib.indexByte l c).toNat + 1) else []
def cutF (l : List UInt8) (c : UInt8) : Bool := decide (0 ≤ Lib.indexByte l c)
theorem indexByte_lt (c : UInt8) : ∀ l : List UInt8, -1 ≤ Lib.indexByte l c ∧ Lib.indexByte l c < l.length
  | [] => by simp [Lib.indexByte]
  | b :: l => by
    have h := indexByte_lt c l
    simp only [Lib.indexByte, List.length_cons]
    split
    · omega
    · split
      · omega
      · omega
end Go.Proofs.YtopngdjhnljmfaaDoor
