/- Walks: the small functions of the reference: shortest, flags. -/
import Derived.Test.YtinnmnhaeejfdaaTgFldM
namespace Go.Proofs.Ytinnmnhaeejfdaa
open Go.RowKit

theorem own_lit1 (w : World) (x : Int) : (w.alloc (.cells #[.int .u8 x] 5)).ownsRow w.heap.size 5 1 (.slice (some ⟨w.heap.size, 0, none⟩) 1 1) 1 [.int .u8 x] :=
  own_of (Nat.le_refl _) (heap_alloc_new _ _) (by decide) rfl
theorem own_one {w : World} {base k : Nat} {v : Value} {x : Int} {L : List Int} (h : w.ownsRow base 5 1 v (1 + k) ([Value.int .u8 x] ++ C8 L)) (hk : k = L.length) (hr : ∀ y ∈ L, 0 ≤ y ∧ y ≤ 255) (hx : 0 ≤ x ∧ x ≤ 255) : Own w base v (x :: L) := by
  subst hk
  refine ⟨by rw [List.length_cons, Nat.add_comm]; exact h, fun y hy => ?_⟩
  rcases List.mem_cons.1 hy with rfl | hy
  · exact hx
  · exact hr y hy
set_option maxHeartbeats 4000000 in
theorem refShortest_any (n : Nat) (hn : n < 9223372036854775808) (w : World) : Calls Try.prog 30 #[.int .i64 n] w fun e w' => ∃ v, e = .returned v ∧ Own w' w.heap.size v (shE n) ∧ Below w.heap.size w w' := by
  obtain ⟨i0, hi0, hz0, hz1, hz2⟩ := info_parts byteInfo
  have hl8 := Lib.hid (shE_len hn)
  go_enter Try.func30, Try.ntmps30
  go_wp2
  go_loopw [0, 3] (fun x v wr => ∃ (m : Nat) (L : List Int), x = .int .i64 (m : Int) ∧ m < 9223372036854775808 ∧ Hid (shE m ++ L = shE n) ∧ Hid (Own wr w.heap.size v L) ∧ Hid (Below w.heap.size w wr)) (fun x _ _ => (intOf x).toNat)
  case atStart => exact ⟨n, [], rfl, hn, Lib.hid (by simp), Lib.hid (own_none _ _), Lib.hid (Below.refl _ _)⟩
  case round =>
    obtain ⟨m, L, rfl, hm, HS, HO, HB⟩ := hrel
    obtain ⟨A, k, c, rfl, HK, hy⟩ := HO.out.bytm
    have HY := Lib.hid hy
    clear hy
    by_cases h0 : m = 0
    · have hfin : L = shE n := by have := HS.out; rw [h0, shE_zero] at this; simpa using this
      have HF := Lib.hid hfin
      subst h0
      clear hfin
      go_wp2
      go_ret
      exact ⟨_, rfl, HF.out ▸ HO.out, HB.out⟩
    · have hpos : (0 : Int) < (m : Int) := by omega
      have hs := HS.out
      rw [shE_pos h0] at hs
      have hll := congrArg List.length hs
      simp only [List.length_append, List.length_cons, List.length_nil] at hll
      have HS2 := Lib.hid hs
      have HLL : Hid (k ≤ 7) := Lib.hid (by have := hl8.out; have := HK.out; omega)
      clear hs hll
      go_wp2_with (at_builtin; refine wpList_append_has_at rfl (.tmp 11) (.tmp 12) 25 rfl wr.heap.size 5 i0 (.int .u8 0) 1 Try.underlying25 hi0 hz0 hz1 hz2 rfl _ _ _ rfl (own_lit1 wr _) _ _ _ _ rfl (HY.out.below (below_lit wr _)).has (by have := HLL.out; unfold maxLen; omega) (by have := HLL.out; omega) (by simp) ?_; intro v4 w4 hown4 hg4 hat4; have hb4 : Below wr.heap.size wr w4 := ((below_lit wr _).grown hg4 (by simp) (fun g hg' => (World.ownsRow.lt (own_lit1 wr ((m : Int) % 256)) g hg').1)); have HO4 := Lib.hid (own_one hown4 HK.out HY.out.ran (show (0 : Int) ≤ (m : Int) % 256 ∧ (m : Int) % 256 ≤ 255 by omega)); have HB4 := Lib.hid (HB.out.trans (hb4.mono HB.out.size)); have HSZ := Lib.hid (HB.out.size); clear hown4 hg4 hat4 hb4)
      go_roundw
      case rel => exact ⟨m / 256, ((m % 256 : Nat) : Int) :: L, by first | rfl | (simp; done), by omega, Lib.hid (by have := HS2.out; simpa using this), Lib.hid (by have := HO4.out; simpa using this.mono HSZ.out), HB4⟩
      case measure => simp [intOf]; omega
end Go.Proofs.Ytinnmnhaeejfdaa
