/- Walks: two lists of elements that are equal; light lists. -/
import Derived.Test.YtinnmnhaeejfdaaTgE
namespace Go.Proofs.Ytinnmnhaeejfdaa
open Go.RowKit

set_option maxRecDepth 100000 in
set_option maxHeartbeats 4000000 in
theorem same_yes {A B : Option Addr} {n c d : Nat} {es : List El} {w : World} (hn : n ≤ 100000) (hA : Els w A n es none) (hB : Els w B n es none) :
    Calls Try.prog 14 #[.slice A n c, .slice B n d] w fun e w' => e = .returned (.bool true) ∧ Below w.heap.size w w' := by
  have hl := hA.len
  have HA := Lib.hid hA; have HB := Lib.hid hB; have HL := Lib.hid hl
  have hni : (n : Int) ≤ 100000 := by omega
  clear hA hB hn hl
  go_enter Try.func14, Try.ntmps14
  go_wp2_with fail
  go_loopw [5] (fun iv wr => ∃ k q : Nat, iv = .int .i64 k ∧ k ≤ n ∧ wr = w.drewN q) (fun iv _ => n - (intOf iv).toNat)
  case atStart => exact ⟨0, 0, rfl, by omega, rfl⟩
  case round =>
    obtain ⟨k, q, rfl, hk, rfl⟩ := hrel
    by_cases hlt : k < n
    · obtain ⟨e, he⟩ : ∃ e, es[k]? = some e := ⟨_, List.getElem?_eq_getElem (by have := HL.out; omega)⟩
      obtain ⟨b1, o1, B1, m1, d1, rfl, -, -, e1, f1, y1, -⟩ := HA.out.elem k e he
      obtain ⟨b2, o2, B2, m2, d2, rfl, -, -, e2, f2, y2, -⟩ := HB.out.elem k e he
      have hlt' : (k : Int) < (n : Int) := by omega
      have cv1 := fun t => byt_conv (y1.below (below_drawn (Below.refl w.heap.size w) t))
      have cv2 := fun t => byt_conv (y2.below (below_drawn (Below.refl w.heap.size w) t))
      obtain ⟨s, hs⟩ : ∃ s, strOfNums e.2 = s := ⟨_, rfl⟩
      rw [hs] at cv1 cv2
      obtain ⟨t, l⟩ := e
      simp only at e1 e2
      clear hs y1 y2 he
      go_wp2_with fail
      go_quiet (fail)
      go_wp2_with fail
      go_roundw
      case rel => exact ⟨k + 1, _, by go_num, by omega, rfl⟩
      case measure => simp [intOf]; omega
    · obtain rfl : k = n := by omega
      go_wp2_with fail
      go_ret
      exact ⟨rfl, below_drawn (Below.refl _ _) _⟩
end Go.Proofs.Ytinnmnhaeejfdaa
