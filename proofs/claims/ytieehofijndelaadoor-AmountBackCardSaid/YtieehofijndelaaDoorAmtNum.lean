/- Walk: the decimal text of a number in the reference. -/
import Derived.Test.YtieehofijndelaaDoorRows
import Derived.Test.YtieehofijndelaaDoorAmtNumM
import Derived.Laws.IdiomStrings
import Derived.Maps.AppendAt
namespace Go.Proofs.YtieehofijndelaaDoor
open Go.RowKit

/-- A new block of one byte, as a string. -/
theorem conv_one {P : Program} (w : World) (src dst e : TypeId) (hs : P.underlying src = some (.slice e)) (he : P.underlying e = some (.int .u8)) (hd : P.underlying dst = some .string) (x : Int) (h0 : 0 ≤ x) (h1 : x ≤ 255) :
    (convert src dst (.slice (some ⟨w.heap.size, 0, none⟩) 1 1)).run P (w.alloc (.cells #[.int .u8 x] e)) = .ok (.string (S [b8 x])) (w.alloc (.cells #[.int .u8 x] e)) := by
  have := run_convert_bytes_back (P := P) (w.alloc (.cells #[.int .u8 x] e)) src dst e ⟨w.heap.size, 0, none⟩ 1 [b8 x] hs he hd (fun j hj => by
    have hc := cell_one_new w (.int .u8 x) e j (.int .u8 x) (by
      have : j = 0 := by simpa using hj
      subst this; rfl)
    rw [hc]
    have : j = 0 := by simpa using hj
    subst this
    simp [b8_toNat h0 h1])
  exact this
theorem lastD_cons (n : Int) (j : Nat) : lastD n (j + 1) = b8 (48 + n / (10 : Int) ^ j % 10) :: lastD n j := by
  rw [Nat.add_comm, lastD_add 1 j n]; rfl

set_option maxHeartbeats 2000000 in
theorem number_any (n : Int) (w : World) (h0 : 0 ≤ n) (h1 : n ≤ 9223372036854775807) :
    Calls Tryd.prog 48 #[.int .i64 n] w fun e w' => ∃ j, IsLen n j ∧ j ≤ 19 ∧ e = .returned (.string (S (lastD n j))) ∧ Below w.heap.size w w' := by
  have hcv : (convert 61 9 (.slice (some ⟨w.heap.size, 0, none⟩) 1 1)).run Tryd.prog (w.alloc (.cells #[.int .u8 (48 + n % 10)] 5)) = .ok (.string (S [b8 (48 + n % 10)])) (w.alloc (.cells #[.int .u8 (48 + n % 10)] 5)) :=
    conv_one w _ _ _ Tryd.underlying61 Tryd.underlying5 Tryd.underlying9 _ (by omega) (by omega)
  go_enter Tryd.func48, Tryd.ntmps48
  go_wp2
  go_loopw [0, 3] (fun x t wr => ∃ (j : Nat) (y : Int), 1 ≤ j ∧ j ≤ 19 ∧ x = .int .i64 y ∧ Hid (n / (10 : Int) ^ j = y) ∧ 0 ≤ y ∧ y ≤ n ∧ t = .string (S (lastD n j)) ∧ Hid (1 < j → 0 < n / (10 : Int) ^ (j - 1)) ∧ Below w.heap.size w wr) (fun x _ _ => (intOf x).toNat)
  case atStart => exact ⟨1, n / 10, by omega, by omega, rfl, Lib.hid (by simp), by omega, by omega, rfl, Lib.hid (fun h => absurd h (by omega)), (Below.refl _ _).alloc (Nat.le_refl _) _⟩
  case round =>
    obtain ⟨j, y, hj1, hj2, rfl, HY, hy0, hyn, rfl, HJ, hb⟩ := hrel
    clear hcv
    have hsz := hb.size
    by_cases hpos : 0 < y
    · have hj18 : j < 19 := by
        rcases Nat.lt_or_ge j 19 with h | h
        · exact h
        · have e : j = 19 := by omega
          have := HY.out
          rw [e] at this
          have h19 : n / (10 : Int) ^ 19 = 0 := by
            have : (10 : Int) ^ 19 = 10000000000000000000 := by decide
            rw [this]; omega
          omega
      have hcv : (convert 61 9 (.slice (some ⟨wr.heap.size, 0, none⟩) 1 1)).run Tryd.prog (wr.alloc (.cells #[.int .u8 (48 + y % 10)] 5)) = .ok (.string (S [b8 (48 + y % 10)])) (wr.alloc (.cells #[.int .u8 (48 + y % 10)] 5)) :=
        conv_one wr _ _ _ Tryd.underlying61 Tryd.underlying5 Tryd.underlying9 _ (by omega) (by omega)
      have hl := lastD_length j n
      have hadd : ∀ wx, (Op.stringOp .add (S [b8 (48 + y % 10)]) (S (lastD n j))).run Tryd.prog wx = .ok (.string (S (b8 (48 + y % 10) :: lastD n j))) wx := fun wx => by
        rw [run_string_add_sum wx _ _ (by rw [S_size, S_size, hl]; simp; omega), S_append]; rfl
      have HN : Hid (n / (10 : Int) ^ (j + 1) = y / 10) := Lib.hid (by
        rw [Int.pow_succ, ← Int.ediv_ediv_of_nonneg (Int.le_of_lt (Int.pow_pos (by decide))), HY.out])
      have HL : Hid (lastD n (j + 1) = b8 (48 + y % 10) :: lastD n j) := Lib.hid (by rw [lastD_cons, HY.out])
      clear hl
      go_wp2
      go_roundw
      case rel =>
        refine ⟨j + 1, y / 10, by omega, by omega, rfl, HN, by omega, by omega, by rw [HL.out], Lib.hid (fun _ => ?_), hb.alloc hsz _⟩
        rw [Nat.add_sub_cancel, HY.out]; exact hpos
      case measure => simp [intOf]; omega
    · have hy : y = 0 := by omega
      have HF : Hid (IsLen n j) := Lib.hid ⟨hj1, by rw [HY.out, hy], HJ.out⟩
      clear hy
      go_wp2
      go_ret
      exact ⟨j, HF.out, hj2, rfl, hb⟩
end Go.Proofs.YtieehofijndelaaDoor
