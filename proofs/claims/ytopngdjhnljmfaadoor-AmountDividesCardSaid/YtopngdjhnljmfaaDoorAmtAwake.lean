/- Walk: the chapter's examples hold. -/
import Derived.Test.YtopngdjhnljmfaaDoorAmtAwk3
namespace Go.Proofs.YtopngdjhnljmfaaDoor
open Go.RowKit

/-- A new block of three numbers. -/
theorem new3 (w : World) (x y z : Int) (hx : -9223372036854775808 ≤ x ∧ x ≤ 9223372036854775807) (hy : -9223372036854775808 ≤ y ∧ y ≤ 9223372036854775807) (hz : -9223372036854775808 ≤ z ∧ z ≤ 9223372036854775807) :
    Ints (w.alloc (.cells #[.int .i64 x, .int .i64 y, .int .i64 z] 3)) (some ⟨w.heap.size, 0, none⟩) 3 [x, y, z] := by
  refine ⟨rfl, by simp; exact ⟨hx, hy, hz⟩, fun i hi => ⟨w.heap.size, 0, rfl, by simp, ?_⟩⟩
  rw [Nat.zero_add, cell_of_row _ _ _ _ _ (0, 0) (heap_alloc_new _ _)]
  match i, hi with
  | 0, _ => rfl
  | 1, _ => rfl
  | 2, _ => rfl
theorem scaleB (w : World) : Calls Tryd.prog 11 #[.int .i64 (-45), .int .i64 1000, .int .i64 10000] w fun e w' => e = .returned (.tuple #[.int .i64 (-5), .int .i64 0]) ∧ Below w.heap.size w w' :=
  (awScale w).mono fun e w' ⟨he, n, hw⟩ => ⟨he, by rw [hw]; exact below_drewN (Below.refl _ _) n⟩
theorem parseB (w : World) : Calls Tryd.prog 12 #[.string ⟨#[48, 49, 50, 46, 48, 52, 53, 48]⟩] w fun e w' => e = .returned (.tuple #[.int .i64 0, .int .i64 1]) ∧ Below w.heap.size w w' :=
  (awParse w).mono fun e w' ⟨he, n, hw⟩ => ⟨he, by rw [hw]; exact below_drewN (Below.refl _ _) n⟩
theorem alloc_below (w : World) (o : Obj) {w' : World} (h : Below (w.alloc o).heap.size (w.alloc o) w') : Below w.heap.size w w' :=
  ((Below.refl _ w).alloc (Nat.le_refl _) o).trans (h.mono (by simp))
theorem splitB (w : World) : Calls Tryd.prog 6 #[.int .i64 100, .slice (some ⟨w.heap.size, 0, none⟩) 3 3] (w.alloc (.cells #[.int .i64 1, .int .i64 1, .int .i64 1] 3)) fun e w' =>
    ∃ A c, e = .returned (.tuple #[.slice A 3 c, .int .i64 0]) ∧ Ints w' A 3 [34, 33, 33] ∧ Below w.heap.size w w' := by
  refine (awSplit w.heap.size _ (by simp) (fun i hi => ?_)).mono fun e w' ⟨A, c, he, hi, hb⟩ => ⟨A, c, he, hi, alloc_below _ _ hb⟩
  rw [cell_of_row _ _ _ _ _ (0, 0) (heap_alloc_new _ _)]
  match i, hi with
  | 0, _ => rfl
  | 1, _ => rfl
  | 2, _ => rfl
theorem roundB (w : World) : Calls Tryd.prog 14 #[.slice (some ⟨w.heap.size, 0, none⟩) 3 3] (w.alloc (.cells #[.int .i64 4000, .int .i64 4000, .int .i64 4000] 3)) fun e w' =>
    ∃ A c, e = .returned (.slice A 3 c) ∧ Ints w' A 3 [1, 0, 0] ∧ Below w.heap.size w w' := by
  refine (awRound w.heap.size _ (by simp) (fun i hi => ?_)).mono fun e w' ⟨A, c, he, hi, hb⟩ => ⟨A, c, he, hi, alloc_below _ _ hb⟩
  rw [cell_of_row _ _ _ _ _ (0, 0) (heap_alloc_new _ _)]
  match i, hi with
  | 0, _ => rfl
  | 1, _ => rfl
  | 2, _ => rfl
theorem sameB (A : Option Addr) (c : Nat) (x y z : Int) (w : World) (hx : -9223372036854775808 ≤ x ∧ x ≤ 9223372036854775807) (hy : -9223372036854775808 ≤ y ∧ y ≤ 9223372036854775807) (hz : -9223372036854775808 ≤ z ∧ z ≤ 9223372036854775807) (hA : Ints w A 3 [x, y, z]) :
    Calls Tryd.prog 8 #[.slice A 3 c, .slice (some ⟨w.heap.size, 0, none⟩) 3 3] (w.alloc (.cells #[.int .i64 x, .int .i64 y, .int .i64 z] 3)) fun e w' => e = .returned (.bool true) ∧ Below w.heap.size w w' := by
  refine (same_any A _ 3 3 c 3 _ _ _ (hA.below ((Below.refl _ w).alloc (Nat.le_refl _) _)) (new3 w x y z hx hy hz) (by decide) (by decide)).mono fun e w' ⟨he, hb⟩ => ⟨he.trans (ret_bool (by simp)), alloc_below _ _ hb⟩

set_option maxHeartbeats 4000000 in
theorem awake_any (w : World) (hP : Pows w) (hz : 0 < w.heap.size) :
    Calls Tryd.prog 5 #[] w fun e w' => e = .returned (.bool true) ∧ Below w.heap.size w w' := by
  have HP := Lib.hid hP; clear hP
  go_enter Tryd.func5, Tryd.ntmps5
  go_wp2_with fail
  refine (scaleB _).mono ?_
  rintro e w1 ⟨rfl, hb1⟩
  go_wp2_with fail
  refine (splitB _).mono ?_
  rintro e w2 ⟨A, c, rfl, hI, hb2⟩
  have g2 : Below w.heap.size w w2 := hb1.trans (hb2.mono hb1.size)
  clear hb2
  go_wp2_with fail
  refine (parseB _).mono ?_
  rintro e w3 ⟨rfl, hb3⟩
  have hI3 := hI.below hb3
  have g3 : Below w.heap.size w w3 := g2.trans (hb3.mono g2.size)
  clear hb3 hI
  go_wp2_with fail
  refine (sameB A c 34 33 33 w3 (by decide) (by decide) (by decide) hI3).mono ?_
  rintro e w4 ⟨rfl, hb4⟩
  have g4 : Below w.heap.size w w4 := g3.trans (hb4.mono g3.size)
  have HP4 := Lib.hid (HP.out.below hz g4)
  have hz4 : 0 < w4.heap.size := Nat.lt_of_lt_of_le hz g4.size
  clear hb4 hI3
  go_wp2_with fail
  refine (awText w4 HP4.out hz4).mono ?_
  rintro e w5 ⟨rfl, hb5⟩
  have g5 : Below w.heap.size w w5 := g4.trans (hb5.mono g4.size)
  clear hb5
  go_wp2_with fail
  refine (roundB _).mono ?_
  rintro e w6 ⟨A6, c6, rfl, hI6, hb6⟩
  have g6 : Below w.heap.size w w6 := g5.trans (hb6.mono g5.size)
  clear hb6
  go_wp2_with fail
  refine (sameB A6 c6 1 0 0 w6 (by decide) (by decide) (by decide) hI6).mono ?_
  rintro e w7 ⟨rfl, hb7⟩
  have g7 : Below w.heap.size w w7 := g6.trans (hb7.mono g6.size)
  clear hb7 hI6
  go_wp2
  go_ret
  exact ⟨rfl, g7⟩
end Go.Proofs.YtopngdjhnljmfaaDoor
