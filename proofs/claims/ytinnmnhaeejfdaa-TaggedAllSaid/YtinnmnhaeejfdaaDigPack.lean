/- Walks: packing digits, in the program and in the reference. -/
import Derived.Test.YtinnmnhaeejfdaaRows
import Derived.Test.YtinnmnhaeejfdaaDigV
import Derived.Test.YtinnmnhaeejfdaaDigPackM
import Derived.Below
import Derived.Maps.AppendAt
namespace Go.Proofs.Ytinnmnhaeejfdaa
open Go.RowKit
theorem byteInfo : (Try.prog.info? 5).map (fun i => (i.zero, i.size, i.bytes)) = some (some (.int .u8 0), 1, 1) := by kernel_rfl

set_option maxHeartbeats 1000000 in
theorem refPack_ok (s : ByteArray) (w : World) (hn : numB s.data.toList = true) :
    Calls Try.prog 29 #[.string s] w fun e w' => ∃ v, e = .returned (.tuple #[v, .int .i64 0]) ∧ w'.ownsRow w.heap.size 5 1 v ((s.size + 1) / 2) (pkTo s.data.toList ((s.size + 1) / 2)) ∧ Below w.heap.size w w' := by
  obtain ⟨hl1, hl2⟩ := num_len hn
  obtain ⟨i0, hi0, hz0, hz1, hz2⟩ := info_parts byteInfo
  have H := Lib.hid hn; clear hn
  go_enter Try.func29, Try.ntmps29
  have hv : numB s.data.toList = true := H.out
  go_wp2_with (go_at_call 44; refine (refValid_any _ _ (by unfold maxLen; omega)).mono ?_; rintro e w1 ⟨rfl, rfl⟩)
  clear hv
  go_loopw [4, 5] (fun v i wr => ∃ k : Nat, 2 * k ≤ s.size + 1 ∧ i = .int .i64 (2 * (k : Int)) ∧ wr.ownsRow w.heap.size 5 1 v k (pkTo s.data.toList k) ∧ Below w.heap.size w wr) (fun _ i _ => s.size + 1 - (intOf i).toNat)
  case atStart =>
    exact ⟨0, by omega, rfl, ⟨rfl, .inr ⟨w.heap.size, 0, #[], rfl, Nat.le_refl _, heap_alloc_new _ _, by omega, by decide, rfl, rfl⟩⟩, (Below.refl _ _).alloc (Nat.le_refl _) _⟩
  case round =>
    obtain ⟨k, hk, rfl, hown, hb⟩ := hrel
    have hsz := hb.size
    by_cases hlt : 2 * k < s.size
    · have hd := digit_at H.out hlt
      by_cases h2 : 2 * k + 1 < s.size
      · have hd2 := digit_at H.out h2
        have hor := or_two H.out h2
        go_wp2_with (at_builtin; refine wpList_append_own _ rfl _ _ 25 rfl w.heap.size 5 i0 (.int .u8 0) 1 1 Try.underlying25 hi0 hz0 hz1 hz2 rfl (by decide) _ _ _ rfl (hown.alloc _) ⟨wr.heap.size, 0, none⟩ 1 1 [.int .u8 (pk s.data.toList k)] rfl rfl ?c1 ?c2 ?c3 ?c4 ?c5 ?_)
        case c1 => exact cell_one_new _ _ _
        case c2 => intro u hu; simp at hu; subst hu; rfl
        case c3 => unfold maxLen; omega
        case c4 => omega
        case c5 => simp; omega
        intro v' w1 hown' hg _
        clear hor hd hd2
        have R : w1.ownsRow w.heap.size 5 1 v' (k + 1) (pkTo s.data.toList (k + 1)) ∧ Below w.heap.size w w1 := ⟨by rw [pkTo_succ]; exact hown', ((hb.alloc hsz _).grown hg (by simp; omega) (fun g hg' => (World.ownsRow.lt hown g hg').1))⟩
        clear hown' hg hown hb
        go_wp2
        go_roundw
        case rel => exact ⟨k + 1, by omega, by go_num, R.1, R.2⟩
        case measure => simp [intOf]; omega
      · have hor := or_one H.out hlt h2
        go_wp2_with (at_builtin; refine wpList_append_own _ rfl _ _ 25 rfl w.heap.size 5 i0 (.int .u8 0) 1 1 Try.underlying25 hi0 hz0 hz1 hz2 rfl (by decide) _ _ _ rfl (hown.alloc _) ⟨wr.heap.size, 0, none⟩ 1 1 [.int .u8 (pk s.data.toList k)] rfl rfl ?c1 ?c2 ?c3 ?c4 ?c5 ?_)
        case c1 => exact cell_one_new _ _ _
        case c2 => intro u hu; simp at hu; subst hu; rfl
        case c3 => unfold maxLen; omega
        case c4 => omega
        case c5 => simp; omega
        intro v' w1 hown' hg _
        clear hor hd
        have R : w1.ownsRow w.heap.size 5 1 v' (k + 1) (pkTo s.data.toList (k + 1)) ∧ Below w.heap.size w w1 := ⟨by rw [pkTo_succ]; exact hown', ((hb.alloc hsz _).grown hg (by simp; omega) (fun g hg' => (World.ownsRow.lt hown g hg').1))⟩
        clear hown' hg hown hb
        go_wp2
        go_roundw
        case rel => exact ⟨k + 1, by omega, by go_num, R.1, R.2⟩
        case measure => simp [intOf]; omega
    · by_cases he : 2 * k = s.size
      · obtain rfl : k = (s.size + 1) / 2 := by omega
        go_wp2
        go_ret2
        exact ⟨_, rfl, hown, hb⟩
      · obtain rfl : k = (s.size + 1) / 2 := by omega
        go_wp2
        go_ret2
        exact ⟨_, rfl, hown, hb⟩
end Go.Proofs.Ytinnmnhaeejfdaa
