/- Walk: packing digits in the program. -/
import Derived.Test.YtinnmnhaeejfdaaDigPack
namespace Go.Proofs.Ytinnmnhaeejfdaa
open Go.RowKit

set_option maxHeartbeats 1000000 in
theorem pack_ok (s : ByteArray) (w : World) (hn : numB s.data.toList = true) :
    Calls Try.prog 40 #[.string s] w fun e w' => ∃ v, e = .returned (.tuple #[v, .int .i64 0]) ∧ w'.ownsRow w.heap.size 5 1 v ((s.size + 1) / 2) (pkTo s.data.toList ((s.size + 1) / 2)) ∧ Below w.heap.size w w' := by
  obtain ⟨hl1, hl2⟩ := num_len hn
  obtain ⟨i0, hi0, hz0, hz1, hz2⟩ := info_parts byteInfo
  have H := Lib.hid hn; clear hn
  obtain ⟨m, hm⟩ : ∃ m, m = (s.size + 1) / 2 := ⟨_, rfl⟩
  have hm1 : 2 * m ≤ s.size + 1 := by omega
  have hm2 : s.size ≤ 2 * m := by omega
  have HM := Lib.hid hm; clear hm
  go_enter Try.func40, Try.ntmps40
  have hv : numB s.data.toList = true := H.out
  go_wp2_with (first
    | (go_at_call 38; refine (valid_any _ _ (by unfold maxLen; omega)).mono ?_; rintro e w1 ⟨rfl, rfl⟩)
    | (at_make; refine wpList_make_full _ rfl _ _ 25 rfl w.heap.size 5 i0 (.int .u8 0) 1 Try.underlying25 hi0 hz0 hz1 _ _ _ _ m rfl rfl (by omega) (by omega) (by rw [hz2]; omega) (by unfold maxLen; omega) (Nat.le_refl _) ?_; intro w1 hown0 hg0))
  clear hv
  have hmade : (madeCells (Value.int IntKind.u8 0).cells (m * 1)).toList = pkRow s.data.toList m 0 := by
    rw [pkRow_zero, made_bytes]
  rw [hmade] at hown0
  clear hmade
  go_loopw [17] (fun i wr => ∃ k : Nat, k ≤ m ∧ i = .int .i64 k ∧ wr.ownsRow w.heap.size 5 1 (.slice (some ⟨w.heap.size, 0, none⟩) m m) m (pkRow s.data.toList m k) ∧ Below w.heap.size w wr) (fun i _ => m - (intOf i).toNat)
  case atStart => exact ⟨0, by omega, rfl, hown0, (Below.refl _ _).grown hg0 (Nat.le_refl _) (fun _ h => by cases h)⟩
  case round =>
    obtain ⟨k, hk, rfl, hown, hb⟩ := hrel
    clear hown0 hg0
    have hsz := hb.size
    by_cases hlt : k < m
    · have hc := (World.ownsRow.cellAt hown k (by omega)).trans (pkRow_at _ _ _ hlt)
      have hf := World.ownsRow.frozenAt hown k
      have hlt2 : 2 * k < s.size := by omega
      have hd := digit_at H.out hlt2
      by_cases h2 : 2 * k + 1 < s.size
      · have hd2 := digit_at H.out h2
        have hor := or_two H.out h2
        go_wp2
        go_roundw
        case rel =>
          refine ⟨k + 1, by omega, by go_num, ?_, ?_⟩
          · have := (World.ownsRow.stored hown k (.int .u8 (pk s.data.toList k))).1
            rw [pkRow_set _ _ _ hlt] at this
            exact this
          · exact hb.setCell (Nat.le_refl _) _
        case measure => simp [intOf]; omega
      · have hor := or_one H.out hlt2 h2
        go_wp2
        go_roundw
        case rel =>
          refine ⟨k + 1, by omega, by go_num, ?_, ?_⟩
          · have := (World.ownsRow.stored hown k (.int .u8 (pk s.data.toList k))).1
            rw [pkRow_set _ _ _ hlt] at this
            exact this
          · exact hb.setCell (Nat.le_refl _) _
        case measure => simp [intOf]; omega
    · obtain rfl : k = m := by omega
      rw [pkRow_all] at hown
      have hown' : wr.ownsRow w.heap.size 5 1 (.slice (some ⟨w.heap.size, 0, none⟩) k k) ((s.size + 1) / 2) (pkTo s.data.toList ((s.size + 1) / 2)) := by
        rw [← HM.out]; exact hown
      clear hown HM
      go_wp2
      go_ret2
      exact ⟨_, rfl, hown', hb⟩

/-- No number: no bytes, ErrNumber. -/
theorem pack_no (s : ByteArray) (w : World) (hs : s.size ≤ maxLen) (hn : numB s.data.toList = false) :
    Calls Try.prog 40 #[.string s] w fun e w' => e = .returned (.tuple #[.slice none 0 0, .int .i64 12]) ∧ w = w' := by
  go_enter Try.func40, Try.ntmps40
  go_wp2_with (go_at_call 38; refine (valid_any _ _ hs).mono ?_; rintro e w1 ⟨rfl, rfl⟩)
  go_ret2
  exact ⟨rfl, rfl⟩
theorem refPack_no (s : ByteArray) (w : World) (hs : s.size ≤ maxLen) (hn : numB s.data.toList = false) :
    Calls Try.prog 29 #[.string s] w fun e w' => e = .returned (.tuple #[.slice none 0 0, .int .i64 12]) ∧ w = w' := by
  go_enter Try.func29, Try.ntmps29
  go_wp2_with (go_at_call 44; refine (refValid_any _ _ hs).mono ?_; rintro e w1 ⟨rfl, rfl⟩)
  go_ret2
  exact ⟨rfl, rfl⟩
end Go.Proofs.Ytinnmnhaeejfdaa
