/- Walk: the reference's Number. -/
import Derived.Test.YtokdfdinnaghmaaDoorTxVl
import Derived.Laws.IdiomStrings
import Derived.Maps.AppendAt
namespace Go.Proofs.YtokdfdinnaghmaaDoor.Tx
open Go Go.Lib Go.RowKit

def preD (m : Nat) : Wd := if m = 0 then [] else decDigits m
def lowD (m : Nat) : UInt8 := UInt8.ofNat (48 + m % 10)
theorem pre_step {m : Nat} (h : 0 < m) : preD m = preD (m / 10) ++ [lowD m] := by
  unfold preD
  rw [if_neg (by omega)]
  by_cases h2 : m < 10
  · rw [if_pos (by omega), dec_small h2, lowD, Nat.mod_eq_of_lt h2]; rfl
  · rw [if_neg (by omega), dec_big h2, lowD]
theorem pre_first (m : Nat) : preD (m / 10) ++ [lowD m] = decDigits m := by
  by_cases h : m = 0
  · subst h; rw [dec_small (by decide)]; rfl
  · rw [← pre_step (by omega)]; unfold preD; rw [if_neg h]
def S (l : List UInt8) : ByteArray := ⟨l.toArray⟩
theorem S_size (l : List UInt8) : (S l).size = l.length := by simp [S, ByteArray.size]
theorem S_app (a b : List UInt8) : S a ++ S b = S (a ++ b) := by
  apply ba_eq
  simp [S]
/-- A new block of one byte, as a string. -/
theorem conv_dig (w : World) (m : Nat) : (convert 60 9 (.slice (some ⟨w.heap.size, 0, none⟩) 1 1)).run Tryd.prog (w.alloc (.cells #[.int .u8 (48 + (m : Int) % 10)] 5)) = .ok (.string (S [lowD m])) (w.alloc (.cells #[.int .u8 (48 + (m : Int) % 10)] 5)) := by
  have := run_convert_bytes_back (P := Tryd.prog) (w.alloc (.cells #[.int .u8 (48 + (m : Int) % 10)] 5)) 60 9 5 ⟨w.heap.size, 0, none⟩ 1 [lowD m] Tryd.underlying60 Tryd.underlying5 Tryd.underlying9 (fun j hj => by
    have hc := cell_one_new w (.int .u8 (48 + (m : Int) % 10)) 5 j (.int .u8 (48 + (m : Int) % 10)) (by
      have : j = 0 := by simpa using hj
      subst this; rfl)
    rw [hc]
    have : j = 0 := by simpa using hj
    subst this
    have h2 := u8_dg (k := m % 10) (by omega)
    simp only [List.getElem_cons_zero]
    unfold lowD
    rw [h2]
    exact congrArg (fun z : Int => some (Value.int .u8 z)) (by omega))
  exact this
set_option maxRecDepth 100000 in
set_option maxHeartbeats 4000000 in
theorem refNumber_any (n : Nat) (w : World) (h : n < 9223372036854775807) : Calls Tryd.prog 23 #[.int .i64 n] w fun e w' => e = .returned (.string (S (decDigits n))) ∧ Below w.heap.size w w' := by
  have hcv := conv_dig w n
  have HL : Hid ((decDigits n).length ≤ 19) := Lib.hid (dec_len (k := 18) (by omega))
  go_enter Tryd.func23, Tryd.ntmps23
  go_wp2
  go_loopw [0, 3] (fun x t wr => ∃ (m : Nat) (d : Wd), x = .int .i64 m ∧ t = .string (S d) ∧ m ≤ n ∧ Hid (preD m ++ d = decDigits n) ∧ Below w.heap.size w wr) (fun x _ _ => (intOf x).toNat)
  case atStart => exact ⟨n / 10, [lowD n], congrArg (fun z : Int => Value.int .i64 z) (by omega), rfl, by omega, Lib.hid (pre_first n), (Below.refl _ _).alloc (Nat.le_refl _) _⟩
  case round =>
    obtain ⟨m, d, rfl, rfl, hm, HP, hb⟩ := hrel
    clear hcv
    have hsz := hb.size
    by_cases hpos : 0 < m
    · have hcv := conv_dig wr m
      have hl : d.length ≤ 19 := by
        have h1 := HL.out
        rw [← HP.out, List.length_append] at h1
        omega
      have hadd : ∀ wx, (Op.stringOp .add (S [lowD m]) (S d)).run Tryd.prog wx = .ok (.string (S (lowD m :: d))) wx := fun wx => by
        rw [run_string_add_sum wx _ _ (by rw [S_size, S_size]; simp; omega), S_app]; rfl
      have HQ := Lib.hid ((congrArg (· ++ d) (pre_step hpos)).symm.trans HP.out)
      have d0 : decide ((0 : Int) < (m : Int)) = true := decide_eq_true (by omega)
      go_wp2
      go_roundw
      case rel => exact ⟨m / 10, lowD m :: d, congrArg (fun z : Int => Value.int .i64 z) (by omega), rfl, by omega, Lib.hid (by rw [← HQ.out, List.append_assoc]; rfl), hb.alloc hsz _⟩
      case measure => simp [intOf]; omega
    · obtain rfl : m = 0 := by omega
      go_wp2
      go_ret
      exact ⟨by rw [← HP.out]; rfl, hb⟩
end Go.Proofs.YtokdfdinnaghmaaDoor.Tx
