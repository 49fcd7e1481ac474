/- Walk: records.Collect over lines, with Decode. -/
import Derived.Test.YtokdfdinnaghmaaDoorPkTw
import Derived.Test.YtokdfdinnaghmaaDoorTxRf
import Derived.OwnWalk
namespace Go.Proofs.YtokdfdinnaghmaaDoor.Va
open Go.RowKit Go.Proofs.YtokdfdinnaghmaaDoor.Tx

/-- No block. -/
def NoB : Nat → Prop := fun _ => False
theorem two_nil (w : World) (D : List Rc) (E : Nat → Int) : Two w NoB D E 0 (.slice none 0 0) (.slice none 0 0) NoB w :=
  ⟨World.ownsRow_nil _ _ _ _, World.ownsRow_nil _ _ _ _, by simp [Value.ownBlock], by simp [Value.ownBlock], by simp [Value.ownBlock], fun b hb => hb.elim, fun b hb => hb.elim, Chg.refl _ _⟩
theorem two_below {w wr : World} {D : List Rc} {E : Nat → Int} {k : Nat} {v u : Value} (h : Two w NoB D E k v u NoB wr) : Below w.heap.size w wr :=
  ⟨h.ch.os, h.ch.tape, h.ch.output, h.ch.size, fun q hq => h.ch.block q hq id⟩
theorem two_nilB {w wr : World} (hb : Below w.heap.size w wr) (D : List Rc) (E : Nat → Int) : Two w NoB D E 0 (.slice none 0 0) (.slice none 0 0) NoB wr :=
  ⟨World.ownsRow_nil _ _ _ _, World.ownsRow_nil _ _ _ _, by simp [Value.ownBlock], by simp [Value.ownBlock], by simp [Value.ownBlock], fun b hb => hb.elim, fun b hb => hb.elim, chg_below hb⟩
/-- The lines lie in a list. -/
def LinesR (w : World) (Ap : Option Addr) (l : List ByteArray) (N : Nat) : Prop := ∀ k, k < N → ∃ g, Ap = some ⟨g, 0, none⟩ ∧ g < w.heap.size ∧ w.cell? ⟨g, k, none⟩ = some (.string (l.getD k ⟨#[]⟩))
def ColOut (w : World) (D : List Rc) (E : Nat → Int) (N : Nat) (e : Ending) (w' : World) : Prop := ∃ v u, e = .returned (.tuple #[v, u]) ∧ Two w NoB D E N v u NoB w'
set_option maxRecDepth 100000 in
set_option maxHeartbeats 16000000 in
theorem collect_dec {w : World} {Ap : Option Addr} {N cp : Nat} {l : List ByteArray} {D : List Rc} {E : Nat → Int} (hX : LinesR w Ap l N) (hN : N ≤ 5000)
    (hD : ∀ k, k < N → ∀ W, Below w.heap.size w W → Calls Tryd.prog 12 #[.string (l.getD k ⟨#[]⟩)] W fun e w' => e = .returned (.tuple #[.agg (D.getD k rc0).cells, .int .i64 (E k)]) ∧ Below W.heap.size W w') :
    Calls Tryd.prog 29 #[.slice Ap N cp, .func (.func 12) #[] #[]] w (ColOut w D E N) := by
  obtain ⟨i0, hi0, hz0, hz1, hz2⟩ := info_parts recInfo
  obtain ⟨k0, hk0, hy0, hy1, hy2⟩ := info_parts rejInfo
  have HX0 := Lib.hid hX; have HD := Lib.hid hD
  have HT0 := Lib.hid (two_nil w D E)
  clear hX hD
  go_enter Tryd.func29, Tryd.ntmps29
  go_wp2_with fail
  go_loopw [6, 7, 13] (fun v u iv wr => ∃ k : Nat, iv = .int .i64 k ∧ k ≤ N ∧ Hid (Two w NoB D E k v u NoB wr)) (fun _ _ iv _ => N - (intOf iv).toNat)
  case atStart => exact ⟨0, rfl, by omega, HT0⟩
  case round =>
    obtain ⟨k, rfl, hk, HT⟩ := hrel
    by_cases hlt : k < N
    · have hlt' : (k : Int) < (N : Int) := by omega
      have hk0' : (0 : Int) ≤ (k : Int) := by omega
      have hkp : (pasN D E k).length ≤ k := pas_len
      have hkj : (rejN E k).length ≤ k := rej_len
      have hb0 := two_below HT.out
      obtain ⟨g, rfl, hg, hcell⟩ := HX0.out k hlt
      have hce := (hb0.cell (p := ⟨g, k, none⟩) hg).trans hcell
      have hst := HD.out k hlt wr hb0
      obtain ⟨a, ha⟩ : ∃ a, l.getD k ⟨#[]⟩ = a := ⟨_, rfl⟩
      rw [ha] at hst hce
      obtain ⟨r, hp⟩ : ∃ r, D.getD k rc0 = r := ⟨_, rfl⟩
      obtain ⟨s0, s1, s2, sa, sb, s5, s6, s7, s8, b9, s10, b11⟩ := r
      obtain ⟨x, hx⟩ : ∃ x, E k = x := ⟨_, rfl⟩
      have HP := Lib.hid hp; have HX := Lib.hid hx
      rw [hp, hx] at hst
      simp only [Rc.cells] at hst
      have HST := Lib.hid hst
      have HKP := Lib.hid hkp; have HKJ := Lib.hid hkj
      clear hp hx hst hkp hkj ha hb0 hcell
      by_cases hx0 : x = 0
      · subst hx0
        go_wp2_with (first
          | (go_at_call 12; (with_reducible refine HST.out.mono ?_); rintro e w1 ⟨rfl, hb⟩; have HT1 := Lib.hid (HT.out.chg (chg_below hb) (F1 := NoB) (fun _ h => h.elim) (fun _ h => h.elim)); obtain ⟨c0, c1, c2, c3, c4, c5, c6, c7, c8, c9, c10, c11⟩ := (show RcB (w1.alloc (.cells #[.int .i64 s0, .int .i64 s1, .int .i64 s2, .string sa, .string sb, .int .i64 s5, .int .i64 s6, .int .i64 s7, .int .i64 s8, .bool b9, .int .i64 s10, .bool b11] 23)) w1.heap.size ⟨s0, s1, s2, sa, sb, s5, s6, s7, s8, b9, s10, b11⟩ from heap_alloc_new w1 _).cells; simp only at c0 c1 c2 c3 c4 c5 c6 c7 c8 c9 c10 c11; clear hce; clear hb)
          | (at_builtin; refine wpList_append_own_at _ rfl (.tmp 33) (.tmp 35) 35 rfl w.heap.size 23 i0 _ 12 112 Tryd.underlying35 hi0 hz0 hz1 hz2 rfl (by decide) _ _ (recl (pasN D E k)) rfl ((HT1.out.alloc _).alloc _).ov ⟨w1.heap.size + 1, 0, none⟩ 1 1 (recl [D.getD k rc0]) rfl (by rw [recl_len]; rfl) (by rw [HP.out]; have h := Blk.srcR (r := ⟨s0, s1, s2, sa, sb, s5, s6, s7, s8, b9, s10, b11⟩) (Blk.new (w1.alloc (.cells #[.int .i64 s0, .int .i64 s1, .int .i64 s2, .string sa, .string sb, .int .i64 s5, .int .i64 s6, .int .i64 s7, .int .i64 s8, .bool b9, .int .i64 s10, .bool b11] 23)) 23 #[.int .i64 s0, .int .i64 s1, .int .i64 s2, .string sa, .string sb, .int .i64 s5, .int .i64 s6, .int .i64 s7, .int .i64 s8, .bool b9, .int .i64 s10, .bool b11]); rw [World.size_alloc] at h; exact h) (recl_one _) (by have := HKP.out; unfold maxLen; omega) (by have := HKP.out; omega) (((HT1.out.alloc _).alloc _).ch.size) ?_; intro v4 w4 g1 g2 _ g3; have HT4 := Lib.hid (((HT1.out.alloc _).alloc _).appV HX.out g1 g2 g3); clear g1 g2 g3))
        go_roundw
        case rel => exact ⟨k + 1, by go_num, by omega, HT4⟩
        case measure => simp [intOf]; omega
      · have hxq : (x == 0) = false := by simp [hx0]
        have HXN : Hid (E k ≠ 0) := Lib.hid (by rw [HX.out]; exact hx0)
        clear hx0
        go_wp2_with (first
          | (go_at_call 12; (with_reducible refine HST.out.mono ?_); rintro e w1 ⟨rfl, hb⟩; have HT1 := Lib.hid (HT.out.chg (chg_below hb) (F1 := NoB) (fun _ h => h.elim) (fun _ h => h.elim)); clear hce; clear hb)
          | (at_builtin; refine wpList_append_own_at _ rfl (.tmp 27) (.tmp 31) 36 rfl w.heap.size 43 k0 _ 4 32 Tryd.underlying36 hk0 hy0 hy1 hy2 rfl (by decide) _ _ (jcl (rejN E k)) rfl ((HT1.out.alloc _).alloc _).ou ⟨w1.heap.size + 1, 0, none⟩ 1 1 (jcl [(0, 0, (k : Int), E k)]) rfl (by rw [jcl_len]; rfl) (by rw [HX.out]; have h := Blk.srcJ (r := (0, 0, (k : Int), x)) (Blk.new (w1.alloc (.cells #[.int .i64 s0, .int .i64 s1, .int .i64 s2, .string sa, .string sb, .int .i64 s5, .int .i64 s6, .int .i64 s7, .int .i64 s8, .bool b9, .int .i64 s10, .bool b11] 23)) 43 #[.int .i64 0, .int .i64 0, .int .i64 k, .int .i64 x]); rw [World.size_alloc] at h; exact h) (jcl_one _) (by have := HKJ.out; unfold maxLen; omega) (by have := HKJ.out; omega) (((HT1.out.alloc _).alloc _).ch.size) ?_; intro v4 w4 g1 g2 _ g3; have HT4 := Lib.hid (((HT1.out.alloc _).alloc _).appU HXN.out g1 g2 g3); clear g1 g2 g3))
        go_roundw
        case rel => exact ⟨k + 1, by go_num, by omega, HT4⟩
        case measure => simp [intOf]; omega
    · obtain rfl : k = N := by omega
      go_wp2_with fail
      go_ret2
      exact ⟨_, _, rfl, HT.out⟩
end Go.Proofs.YtokdfdinnaghmaaDoor.Va
