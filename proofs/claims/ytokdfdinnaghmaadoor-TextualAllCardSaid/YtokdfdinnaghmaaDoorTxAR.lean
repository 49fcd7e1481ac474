/- Walk: All of the reference. -/
import Derived.Test.YtokdfdinnaghmaaDoorTxAl
import Derived.Test.YtokdfdinnaghmaaDoorTxLn
namespace Go.Proofs.YtokdfdinnaghmaaDoor.Va
open Go.RowKit Go.Proofs.YtokdfdinnaghmaaDoor.Tx

set_option maxRecDepth 100000 in
set_option maxHeartbeats 16000000 in
theorem refAll_any (s : ByteArray) (w : World) (hs : s.size ≤ 100000) (hs2 : (spl 10 s.data.toList).length ≤ 4097) : Calls Tryd.prog 17 #[.string s] w (AllOut s.data.toList w) := by
  have hsm : s.size ≤ maxLen := by unfold maxLen; omega
  cases hok : okL s.data.toList with
  | false =>
    have HOK := Lib.hid hok
    have HOUT : Hid (∀ e w', e = .returned (.tuple #[.slice none 0 0, .slice none 0 0, .int .i64 1]) → Below w.heap.size w w' → AllOut s.data.toList w e w') := Lib.hid (fun e w' h hb => by
      refine ⟨_, _, by unfold allX; rw [hok]; exact h, ?_⟩
      have hn : (allL s.data.toList).length = 0 := by unfold allL; rw [hok]; rfl
      rw [hn]
      exact two_nilB hb _ _)
    clear hok hs2
    go_enter Tryd.func17, Tryd.ntmps17
    go_wp2_with (go_at_call 15; (with_reducible refine (refLines_any s _ (by omega)).mono ?_); rintro e w1 ⟨h1, -, -, hb1⟩; obtain rfl := h1 HOK.out; have HB1 := Lib.hid hb1; clear hb1 h1)
    go_ret3
    exact HOUT.out _ _ rfl HB1.out
  | true =>
    have HOK := Lib.hid hok
    have HS2 := Lib.hid hs2
    have HLL : Hid (allL s.data.toList = (spl 10 s.data.toList).dropLast) := Lib.hid (by unfold allL; rw [hok]; rfl)
    obtain ⟨N, hN⟩ : ∃ N, (allL s.data.toList).length = N := ⟨_, rfl⟩
    have hN5 : N ≤ 5000 := by rw [← hN, HLL.out, List.length_dropLast]; omega
    have hx : allX s.data.toList = 0 := by unfold allX; rw [hok]; rfl
    have HOUT : Hid (∀ e w' v u, e = .returned (.tuple #[v, u, .int .i64 0]) → Two w NoB (allD s.data.toList) (allE s.data.toList) N v u NoB w' → AllOut s.data.toList w e w') := Lib.hid (fun e w' v u h ht => ⟨v, u, by rw [hx]; exact h, by rw [hN]; exact ht⟩)
    have HNN := Lib.hid hN
    have HSZ : Hid (∀ ls : List ByteArray, byt ls = allL s.data.toList → ∀ k, k < ls.length → (ls.getD k ⟨#[]⟩).size ≤ 900000) := Lib.hid (fun ls h k hk => by
      have hm : (ls.getD k ⟨#[]⟩).data.toList ∈ allL s.data.toList := by
        rw [← h, byt]
        refine List.mem_map.2 ⟨_, ?_, rfl⟩
        rw [List.getD_eq_getElem?_getD, List.getElem?_eq_getElem hk]; exact List.getElem_mem hk
      have := allL_mem _ hm
      rw [bsz, bsz] at this; omega)
    clear hok hN hx hs2
    obtain ⟨i0, hi0, hz0, hz1, hz2⟩ := info_parts recInfo
    obtain ⟨k0, hk0, hy0, hy1, hy2⟩ := info_parts rejInfo
    obtain ⟨D, hD⟩ : ∃ D, allD s.data.toList = D := ⟨_, rfl⟩
    obtain ⟨E, hE⟩ : ∃ E, allE s.data.toList = E := ⟨_, rfl⟩
    rw [hD, hE] at HOUT
    have HDD := Lib.hid hD; have HEE := Lib.hid hE
    clear hD hE hsm
    go_enter Tryd.func17, Tryd.ntmps17
    go_wp2_with (go_at_call 15; (with_reducible refine (refLines_any s _ (by omega)).mono ?_); rintro e w1 ⟨-, -, h1, hb1⟩; obtain ⟨v0, ls, rfl, hls, -, ho⟩ := h1 HOK.out HS2.out; rw [← HLL.out] at hls; have hln : ls.length = N := (by rw [← byt_len, hls]; exact HNN.out); rw [hln] at ho; obtain ⟨Ap, cp, rfl⟩ := own_slice ho; have hlr := lines_row ho hln; have HLR := Lib.hid hlr; have HB1 := Lib.hid hb1; have HLS := Lib.hid hls; have HLN := Lib.hid hln; clear h1 hb1 hls hln ho hlr)
    have HD : Hid (∀ k, k < N → ∀ W, Below w1.heap.size w1 W → Calls Tryd.prog 13 #[.string (ls.getD k ⟨#[]⟩)] W fun e w' => e = .returned (.tuple #[.agg (D.getD k rc0).cells, .int .i64 (E k)]) ∧ Below W.heap.size W w') := Lib.hid (fun k hk W _ => by
      rw [← HDD.out, ← HEE.out]
      exact rdec_gives (all_dec HLS.out (by rw [HLN.out]; exact hk)) (HSZ.out ls HLS.out k (by rw [HLN.out]; exact hk)) W)
    have HX0 : Hid (∀ W, Below w1.heap.size w1 W → ∀ k, k < N → ∃ g, Ap = some ⟨g, 0, none⟩ ∧ g < W.heap.size ∧ W.cell? ⟨g, k, none⟩ = some (.string (ls.getD k ⟨#[]⟩))) := Lib.hid (fun W hb => HLR.out.below hb)
    have HT0 := Lib.hid (two_nil w1 D E)
    go_loopw [7, 8, 9] (fun v u iv wr => ∃ k : Nat, iv = .int .i64 k ∧ k ≤ N ∧ Hid (Two w1 NoB D E k v u NoB wr)) (fun _ _ iv _ => N - (intOf iv).toNat)
    case atStart => exact ⟨0, rfl, by omega, HT0⟩
    case round =>
      obtain ⟨k, rfl, hk, HT⟩ := hrel
      by_cases hlt : k < N
      · have hlt' : (k : Int) < (N : Int) := by omega
        have hk0' : (0 : Int) ≤ (k : Int) := by omega
        have hkp : (pasN D E k).length ≤ k := pas_len
        have hkj : (rejN E k).length ≤ k := rej_len
        have hb0 := two_below HT.out
        obtain ⟨g, rfl, hg, hcell⟩ := HX0.out wr hb0 k hlt
        have hce := hcell
        have hst := HD.out k hlt wr hb0
        obtain ⟨a, ha⟩ : ∃ a, ls.getD k ⟨#[]⟩ = a := ⟨_, rfl⟩
        rw [ha] at hst hce
        obtain ⟨r, hp⟩ : ∃ r, D.getD k rc0 = r := ⟨_, rfl⟩
        obtain ⟨s0, s1, s2, sa, sb, s5, s6, s7, s8, b9, s10, b11⟩ := r
        obtain ⟨x, hx⟩ : ∃ x, E k = x := ⟨_, rfl⟩
        have HP := Lib.hid hp; have HX := Lib.hid hx
        rw [hp, hx] at hst
        simp only [Rc.cells] at hst
        have HST := Lib.hid hst
        have HKP := Lib.hid hkp; have HKJ := Lib.hid hkj
        clear hp hx hst hkp hkj ha hb0 hcell
        by_cases hx0 : x = 0
        · subst hx0
          go_wp2_with (first
            | (go_at_call 13; (with_reducible refine HST.out.mono ?_); rintro e w2 ⟨rfl, hb⟩; have HT1 := Lib.hid (HT.out.chg (chg_below hb) (F1 := NoB) (fun _ h => h.elim) (fun _ h => h.elim)); obtain ⟨c0, c1, c2, c3, c4, c5, c6, c7, c8, c9, c10, c11⟩ := (show RcB (w2.alloc (.cells #[.int .i64 s0, .int .i64 s1, .int .i64 s2, .string sa, .string sb, .int .i64 s5, .int .i64 s6, .int .i64 s7, .int .i64 s8, .bool b9, .int .i64 s10, .bool b11] 23)) w2.heap.size ⟨s0, s1, s2, sa, sb, s5, s6, s7, s8, b9, s10, b11⟩ from heap_alloc_new w2 _).cells; simp only at c0 c1 c2 c3 c4 c5 c6 c7 c8 c9 c10 c11; clear hce; clear hb)
            | (at_builtin; refine wpList_append_own_at _ rfl (.tmp 36) (.tmp 38) 35 rfl w1.heap.size 23 i0 _ 12 112 Tryd.underlying35 hi0 hz0 hz1 hz2 rfl (by decide) _ _ (recl (pasN D E k)) rfl ((HT1.out.alloc _).alloc _).ov ⟨w2.heap.size + 1, 0, none⟩ 1 1 (recl [D.getD k rc0]) rfl (by rw [recl_len]; rfl) (by rw [HP.out]; have h := Blk.srcR (r := ⟨s0, s1, s2, sa, sb, s5, s6, s7, s8, b9, s10, b11⟩) (Blk.new (w2.alloc (.cells #[.int .i64 s0, .int .i64 s1, .int .i64 s2, .string sa, .string sb, .int .i64 s5, .int .i64 s6, .int .i64 s7, .int .i64 s8, .bool b9, .int .i64 s10, .bool b11] 23)) 23 #[.int .i64 s0, .int .i64 s1, .int .i64 s2, .string sa, .string sb, .int .i64 s5, .int .i64 s6, .int .i64 s7, .int .i64 s8, .bool b9, .int .i64 s10, .bool b11]); rw [World.size_alloc] at h; exact h) (recl_one _) (by have := HKP.out; unfold maxLen; omega) (by have := HKP.out; omega) (((HT1.out.alloc _).alloc _).ch.size) ?_; intro v4 w4 g1 g2 _ g3; have HT4 := Lib.hid (((HT1.out.alloc _).alloc _).appV HX.out g1 g2 g3); clear g1 g2 g3))
          go_roundw
          case rel => exact ⟨k + 1, by go_num, by omega, HT4⟩
          case measure => simp [intOf]; omega
        · have hxq : (x == 0) = false := by simp [hx0]
          have HXN : Hid (E k ≠ 0) := Lib.hid (by rw [HX.out]; exact hx0)
          clear hx0
          go_wp2_with (first
            | (go_at_call 13; (with_reducible refine HST.out.mono ?_); rintro e w2 ⟨rfl, hb⟩; have HT1 := Lib.hid (HT.out.chg (chg_below hb) (F1 := NoB) (fun _ h => h.elim) (fun _ h => h.elim)); clear hce; clear hb)
            | (at_builtin; refine wpList_append_own_at _ rfl (.tmp 40) (.tmp 44) 36 rfl w1.heap.size 43 k0 _ 4 32 Tryd.underlying36 hk0 hy0 hy1 hy2 rfl (by decide) _ _ (jcl (rejN E k)) rfl ((HT1.out.alloc _).alloc _).ou ⟨w2.heap.size + 1, 0, none⟩ 1 1 (jcl [(0, 0, (k : Int), E k)]) rfl (by rw [jcl_len]; rfl) (by rw [HX.out]; have h := Blk.srcJ (r := (0, 0, (k : Int), x)) (Blk.new (w2.alloc (.cells #[.int .i64 s0, .int .i64 s1, .int .i64 s2, .string sa, .string sb, .int .i64 s5, .int .i64 s6, .int .i64 s7, .int .i64 s8, .bool b9, .int .i64 s10, .bool b11] 23)) 43 #[.int .i64 0, .int .i64 0, .int .i64 k, .int .i64 x]); rw [World.size_alloc] at h; exact h) (jcl_one _) (by have := HKJ.out; unfold maxLen; omega) (by have := HKJ.out; omega) (((HT1.out.alloc _).alloc _).ch.size) ?_; intro v4 w4 g1 g2 _ g3; have HT4 := Lib.hid (((HT1.out.alloc _).alloc _).appU HXN.out g1 g2 g3); clear g1 g2 g3))
          go_roundw
          case rel => exact ⟨k + 1, by go_num, by omega, HT4⟩
          case measure => simp [intOf]; omega
      · obtain rfl : k = N := by omega
        go_wp2_with fail
        go_ret3
        exact HOUT.out _ _ _ _ rfl (two_shift HB1.out HT.out)
end Go.Proofs.YtokdfdinnaghmaaDoor.Va
