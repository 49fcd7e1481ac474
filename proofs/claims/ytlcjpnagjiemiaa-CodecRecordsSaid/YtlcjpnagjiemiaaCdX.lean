/- Walks: the bytes of a number in the reference; texts. -/
import Derived.Test.YtlcjpnagjiemiaaRows
import Derived.Test.YtlcjpnagjiemiaaCdW
namespace Go.Proofs.Ytlcjpnagjiemiaa
open Go.RowKit


set_option maxHeartbeats 2000000 in
theorem refBytes_any (z : Int) (w : World) (hz : -9223372036854775808 ≤ z ∧ z ≤ 9223372036854775807) :
    Calls Try.prog 32 #[.int .i64 z] w (Gives w w.heap.size (numE z)) := by
  obtain ⟨i0, hi0, hz0, hz1, hz2⟩ := info_parts byteInfo
  have hzl := zig_lt hz.1 hz.2
  have h10 : (numE z).length ≤ 10 := grp_len 9 _ (by have : (128:Nat)^(9+1) = 1180591620717411303424 := by decide
                                                     omega)
  obtain ⟨zz, hzz⟩ : ∃ zz : Nat, zig z = zz := ⟨_, rfl⟩
  have hE : numE z = grp zz := by rw [numE, hzz]
  rw [hzz] at hzl
  rw [hE] at h10 ⊢
  go_enter Try.func32, Try.ntmps32
  refine Or.elim (Decidable.em (z < 0)) (fun hneg => ?neg) (fun hneg => ?pos)
  case neg =>
    have hq : 2 * -(z + 1) + 1 = (zz : Int) := by rw [← hzz]; unfold zig; rw [if_pos hneg]; omega
    go_wp2
    clear hq
    have HZL := Lib.hid hzl; have HZ := Lib.hid hz; clear hzl hz
    go_loopw [3, 4] (fun u v wr => ∃ (l : List Int) (U : Nat), Own wr w.heap.size v l ∧ u = .int .u64 (U : Int) ∧ U < 18446744073709551616 ∧ Hid (l ++ grp U = grp zz) ∧ Below w.heap.size w wr) (fun u _ _ => (intOf u).toNat)
    case atStart => exact ⟨[], zz, own_none _ _, rfl, HZL.out, rfl, Below.refl _ _⟩
    case round =>
      obtain ⟨l, U, ho, rfl, hU, hl, hb⟩ := hrel
      have hsz := hb.size
      have hlen := congrArg List.length hl.out
      rw [List.length_append] at hlen
      have hpos := grp_pos U
      have HU := Lib.hid hU; clear hU
      have HO := Lib.hid ho; clear ho
      by_cases hlt : (127 : Int) < (U : Int)
      · go_wp2_with (at_builtin; refine wpList_append_own _ rfl (.tmp 18) (.tmp 23) 22 rfl w.heap.size 5 i0 (.int .u8 0) 1 1 Try.underlying22 hi0 hz0 hz1 hz2 rfl (by decide) _ _ _ rfl (World.ownsRow.alloc HO.out.1 _) ⟨wr.heap.size, 0, none⟩ 1 1 [.int .u8 (128 + (U : Int) % 128)] rfl rfl (cell_one_new _ _ _) (by intro u hu; simp at hu; subst hu; rfl) (by unfold maxLen; omega) (by omega) (by simp; omega) ?_; intro v1 w1 hown1 hg1 _; have hb1 : Below w.heap.size w w1 := ((hb.alloc hsz _).grown hg1 (by simp; omega) (fun g hg' => (World.ownsRow.lt HO.out.1 g hg').1)))
        go_roundw
        case rel =>
          have := hl.out
          rw [grp_big (by omega)] at this
          refine ⟨l ++ [((U % 128 + 128 : Nat) : Int)], U / 128, ⟨?_, ran_app HO.out.2 (by intro x hx; simp at hx; omega)⟩, by rw [wrap_u64]; have := HU.out; congr 1; omega, by have := HU.out; omega, ?_, hb1⟩
          · rw [show (128 + (U : Int) % 128) = ((U % 128 + 128 : Nat) : Int) by omega] at hown1
            rw [List.length_append, C8_app]; exact hown1
          · show _ = _; rw [← this]; simp
        case measure => simp only [intOf, wrap_u64]; have := HU.out; omega
      · have hwb : (U : Int) % 256 = (U : Int) := by omega
        have hfin : l ++ [(U : Int)] = grp zz := by
          have := hl.out
          rwa [grp_small (by omega)] at this
        have HF := Lib.hid hfin; clear hfin
        have hl1 : (grp U).length = 1 := by rw [grp_small (by omega)]; rfl
        go_wp2_with (at_builtin; refine wpList_append_own _ rfl (.tmp 27) (.tmp 30) 22 rfl w.heap.size 5 i0 (.int .u8 0) 1 1 Try.underlying22 hi0 hz0 hz1 hz2 rfl (by decide) _ _ _ rfl (World.ownsRow.alloc HO.out.1 _) ⟨wr.heap.size, 0, none⟩ 1 1 [.int .u8 (U : Int)] rfl rfl (cell_one_new _ _ _) (by intro u hu; simp at hu; subst hu; rfl) (by unfold maxLen; omega) (by omega) (by simp; omega) ?_; intro v1 w1 hown1 hg1 _; have hb1 : Below w.heap.size w w1 := ((hb.alloc hsz _).grown hg1 (by simp; omega) (fun g hg' => (World.ownsRow.lt HO.out.1 g hg').1)))
        go_ret
        refine ⟨v1, rfl, ⟨?_, grp_byte _⟩, hb1⟩
        rw [← HF.out, List.length_append, C8_app]
        exact hown1
  case pos =>
    have hq : 2 * z = (zz : Int) := by rw [← hzz]; unfold zig; rw [if_neg hneg]; omega
    go_wp2
    clear hq
    have HZL := Lib.hid hzl; have HZ := Lib.hid hz; clear hzl hz
    go_loopw [3, 4] (fun u v wr => ∃ (l : List Int) (U : Nat), Own wr w.heap.size v l ∧ u = .int .u64 (U : Int) ∧ U < 18446744073709551616 ∧ Hid (l ++ grp U = grp zz) ∧ Below w.heap.size w wr) (fun u _ _ => (intOf u).toNat)
    case atStart => exact ⟨[], zz, own_none _ _, rfl, HZL.out, rfl, Below.refl _ _⟩
    case round =>
      obtain ⟨l, U, ho, rfl, hU, hl, hb⟩ := hrel
      have hsz := hb.size
      have hlen := congrArg List.length hl.out
      rw [List.length_append] at hlen
      have hpos := grp_pos U
      have HU := Lib.hid hU; clear hU
      have HO := Lib.hid ho; clear ho
      by_cases hlt : (127 : Int) < (U : Int)
      · go_wp2_with (at_builtin; refine wpList_append_own _ rfl (.tmp 18) (.tmp 23) 22 rfl w.heap.size 5 i0 (.int .u8 0) 1 1 Try.underlying22 hi0 hz0 hz1 hz2 rfl (by decide) _ _ _ rfl (World.ownsRow.alloc HO.out.1 _) ⟨wr.heap.size, 0, none⟩ 1 1 [.int .u8 (128 + (U : Int) % 128)] rfl rfl (cell_one_new _ _ _) (by intro u hu; simp at hu; subst hu; rfl) (by unfold maxLen; omega) (by omega) (by simp; omega) ?_; intro v1 w1 hown1 hg1 _; have hb1 : Below w.heap.size w w1 := ((hb.alloc hsz _).grown hg1 (by simp; omega) (fun g hg' => (World.ownsRow.lt HO.out.1 g hg').1)))
        go_roundw
        case rel =>
          have := hl.out
          rw [grp_big (by omega)] at this
          refine ⟨l ++ [((U % 128 + 128 : Nat) : Int)], U / 128, ⟨?_, ran_app HO.out.2 (by intro x hx; simp at hx; omega)⟩, by rw [wrap_u64]; have := HU.out; congr 1; omega, by have := HU.out; omega, ?_, hb1⟩
          · rw [show (128 + (U : Int) % 128) = ((U % 128 + 128 : Nat) : Int) by omega] at hown1
            rw [List.length_append, C8_app]; exact hown1
          · show _ = _; rw [← this]; simp
        case measure => simp only [intOf, wrap_u64]; have := HU.out; omega
      · have hwb : (U : Int) % 256 = (U : Int) := by omega
        have hfin : l ++ [(U : Int)] = grp zz := by
          have := hl.out
          rwa [grp_small (by omega)] at this
        have HF := Lib.hid hfin; clear hfin
        have hl1 : (grp U).length = 1 := by rw [grp_small (by omega)]; rfl
        go_wp2_with (at_builtin; refine wpList_append_own _ rfl (.tmp 27) (.tmp 30) 22 rfl w.heap.size 5 i0 (.int .u8 0) 1 1 Try.underlying22 hi0 hz0 hz1 hz2 rfl (by decide) _ _ _ rfl (World.ownsRow.alloc HO.out.1 _) ⟨wr.heap.size, 0, none⟩ 1 1 [.int .u8 (U : Int)] rfl rfl (cell_one_new _ _ _) (by intro u hu; simp at hu; subst hu; rfl) (by unfold maxLen; omega) (by omega) (by simp; omega) ?_; intro v1 w1 hown1 hg1 _; have hb1 : Below w.heap.size w w1 := ((hb.alloc hsz _).grown hg1 (by simp; omega) (fun g hg' => (World.ownsRow.lt HO.out.1 g hg').1)))
        go_ret
        refine ⟨v1, rfl, ⟨?_, grp_byte _⟩, hb1⟩
        rw [← HF.out, List.length_append, C8_app]
        exact hown1
end Go.Proofs.Ytlcjpnagjiemiaa
