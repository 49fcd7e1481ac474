/- Walk: the elements of bytes. -/
import Derived.Test.YtinnmnhaeejfdaaTgE
import Derived.Deep.Cut
namespace Go.Proofs.Ytinnmnhaeejfdaa
open Go.RowKit

def lenOf : Value → Nat | .slice _ m _ => m | _ => 0
set_option maxRecDepth 100000 in
set_option maxHeartbeats 8000000 in
theorem elements_any {A : Option Addr} {n c : Nat} {l : List Int} {w : World} (hA : Byt w A n c l) (hn : n ≤ 100000) :
    Calls Try.prog 13 #[.slice A n c] w (ElmP l w) := by
  obtain ⟨i0, hi0, hz0, hz1, hz2⟩ := info_parts byteInfo
  obtain ⟨j0, hj0, hy0, hy1, hy2⟩ := info_parts elInfo
  have hl := hA.len
  have hni : (n : Int) ≤ 100000 := by omega
  have HL := Lib.hid hl
  have HA := Lib.hid hA
  clear hA hl hn
  go_enter Try.func13, Try.ntmps13
  go_wp2
  go_loopw [4, 5, 6] (fun v pr r wr => ∃ (k : Nat) (es : List El) (p : Int) (A2 : Option Addr) (m2 c2 : Nat) (S : List Int), pr = .int .i64 p ∧ r = .slice A2 m2 c2 ∧ Hid (Byt w A2 m2 c2 S) ∧ Hid (S.length < k) ∧ S.length = m2 ∧ m2 ≤ n ∧ Hid (es.length ≤ n - m2) ∧ Hid (FoundE wr w.heap.size v es) ∧
    Hid (es ++ (elmF k S p).1 = (elmR l).1) ∧ Hid ((elmF k S p).2 = (elmR l).2) ∧ Hid (Below w.heap.size w wr)) (fun _ _ r _ => lenOf r)
  case atStart => exact ⟨l.length + 1, [], 0, A, n, c, l, rfl, rfl, HA.out, Lib.hid (by omega), HL.out, by omega, Lib.hid (by simp), ⟨[], World.ownsRow_nil _ _ _ _, by simp, by simp⟩, rfl, rfl, Below.refl _ _⟩
  case round =>
    obtain ⟨k, es, p, A2, m2, c2, S, rfl, rfl, HY, HK, hSm, hmn, HPN, HFO, HR1, HR2, HB⟩ := hrel
    obtain ⟨k', rfl⟩ : ∃ k', k = k' + 1 := ⟨k - 1, by have := HK.out; omega⟩
    have hmi : (m2 : Int) ≤ 100000 := by omega
    match S, hSm with
    | [], hSm =>
      obtain rfl : m2 = 0 := by simpa using hSm.symm
      have HE1 : Hid ((elmR l).1 = es) := Lib.hid (by rw [← HR1.out, elmF_nil]; simp)
      have HE2 : Hid ((elmR l).2 = 0) := Lib.hid (by rw [← HR2.out, elmF_nil])
      clear hSm
      go_wp2
      go_ret2
      exact ElmP.yes HE2.out HE1.out rfl HFO.out HB.out
    | [t], hSm =>
      obtain rfl : m2 = 1 := by simpa using hSm.symm
      obtain ⟨b, off, x, rfl, hx, hc, hbl⟩ := HY.out.at (k := 0) (by omega)
      obtain rfl : t = x := by simpa using hx
      have hc' := (HB.out.cell (p := ⟨b, off + 0, none⟩) hbl).trans hc
      rw [Nat.add_zero] at hc'
      have ht := HY.out.ran t (by simp)
      obtain ⟨ht0, ht1⟩ := ht
      clear hc hbl hx hSm
      by_cases c1 : t = 0
      · have HE2 : Hid ((elmR l).2 = 6) := Lib.hid (by rw [← HR2.out, elmF_one, if_pos c1])
        subst c1
        clear ht0 ht1
        go_wp2
        go_ret2
        exact ElmP.no HE2.out (by decide) rfl HB.out
      · by_cases c2 : t ≤ p
        · have HE2 : Hid ((elmR l).2 = 9) := Lib.hid (by rw [← HR2.out, elmF_one, if_neg c1, if_pos c2])
          go_wp2
          go_ret2
          exact ElmP.no HE2.out (by decide) rfl HB.out
        · have HE2 : Hid ((elmR l).2 = 2) := Lib.hid (by rw [← HR2.out, elmF_one, if_neg c1, if_neg c2])
          go_wp2
          go_ret2
          exact ElmP.no HE2.out (by decide) rfl HB.out
    | t :: z :: s, hSm =>
      have hm2 : 2 ≤ m2 := by rw [← hSm]; simp
      obtain ⟨b, off, x, rfl, hx, hc, hbl⟩ := HY.out.at (k := 0) (by omega)
      obtain ⟨b', off', x', hA', hx', hcx, -⟩ := HY.out.at (k := 1) (by omega)
      obtain ⟨rfl, rfl⟩ : b = b' ∧ off = off' := by simpa using hA'
      obtain rfl : t = x := by simpa using hx
      obtain rfl : z = x' := by simpa using hx'
      have hc' := (HB.out.cell (p := ⟨b, off + 0, none⟩) hbl).trans hc
      have hcx' := (HB.out.cell (p := ⟨b, off + 1, none⟩) hbl).trans hcx
      rw [Nat.add_zero] at hc'
      obtain ⟨ht0, ht1⟩ := HY.out.ran t (by simp)
      obtain ⟨hz0', hz1'⟩ := HY.out.ran z (by simp)
      obtain ⟨Z, rfl⟩ : ∃ Z : Nat, z = Z := ⟨z.toNat, by omega⟩
      have hsl : (s.length : Int) = (m2 : Int) - 2 := by simp at hSm; omega
      have hm2i : (2 : Int) ≤ (m2 : Int) := by omega
      have HE := elmF_cons k' t (Z : Int) s p
      clear hc hcx hbl hx hx' hA' hSm
      by_cases c1 : t = 0
      · have HE2 : Hid ((elmR l).2 = 6) := Lib.hid (by rw [← HR2.out, HE, if_pos c1])
        subst c1
        clear ht0 ht1 HE
        go_wp2
        go_ret2
        exact ElmP.no HE2.out (by decide) rfl HB.out
      · rw [if_neg c1] at HE
        by_cases c2' : t ≤ p
        · have HE2 : Hid ((elmR l).2 = 9) := Lib.hid (by rw [← HR2.out, HE, if_pos c2'])
          clear HE
          go_wp2
          go_ret2
          exact ElmP.no HE2.out (by decide) rfl HB.out
        · rw [if_neg c2'] at HE
          by_cases c3 : (m2 : Int) - 2 < (Z : Int)
          · have HE2 : Hid ((elmR l).2 = 2) := Lib.hid (by rw [← HR2.out, HE, if_pos (by omega)])
            clear HE
            go_wp2
            go_ret2
            exact ElmP.no HE2.out (by decide) rfl HB.out
          · rw [if_neg (by omega), Int.toNat_natCast] at HE
            have HHE := Lib.hid HE
            clear HE
            have hcap := HY.out.cap
            have hmx := HY.out.max
            obtain ⟨vs, hvs, hone, hpay⟩ := HFO.out
            have HVS := Lib.hid hvs; have HONE := Lib.hid hone; have HPAY := Lib.hid hpay
            have HPL8 : Hid ((s.take Z).length = 2 + Z - 2) := Lib.hid (by rw [List.length_take]; omega)
            clear hvs hone hpay
            by_cases hc2 : c2 = 2
            · subst hc2
              have hP : Byt w (some ⟨b, off, none⟩) (2 + Z - 2) 0 (s.take Z) := by
                  have e : s.take Z = [] := List.length_eq_zero_iff.1 (by rw [HPL8.out]; omega)
                  rw [e, show 2 + Z - 2 = 0 by omega]; exact byt_none (by unfold maxLen; omega) (by intro h; cases h)
              have hQ : Byt w (some ⟨b, off, none⟩) (m2 - (2 + Z)) (2 - (2 + Z)) (s.drop Z) := by
                  have e : s.drop Z = [] := List.length_eq_zero_iff.1 (by rw [List.length_drop]; omega)
                  rw [e, show m2 - (2 + Z) = 0 by omega]; exact byt_none (by unfold maxLen; omega) (by intro h; cases h)
              have HP := Lib.hid hP; have HQ := Lib.hid hQ
              clear hP hQ hmx
              obtain ⟨L1, hL1, hn1⟩ := nil_world wr
              have HL1 := Lib.hid hn1; clear hn1
              go_wp2_with (first
                | (at_builtin; refine wpList_append_has rfl (.tmp 44) (.tmp 47) 25 rfl wr.heap.size 5 i0 (.int .u8 0) 1 Try.underlying25 hi0 hz0 hz1 hz2 rfl _ _ _ rfl HL1.out.2.1 _ _ _ _ rfl ((HP.out.below HB.out).below HL1.out.1).has (by unfold maxLen; omega) (by omega) (by have := HL1.out.2.2; omega) ?_; intro v8 w2 hown2 hg2; have hb2 : Below wr.heap.size wr w2 := (HL1.out.1.grown hg2 (by have := HL1.out.2.2; omega) (fun g hg' => (World.ownsRow.lt HL1.out.2.1 g hg').1)); have hO8 := own_of_nil hown2 HPL8.out HP.out.ran; obtain ⟨A8, m8, c8, rfl, hm8, y8⟩ := hO8.bytm; have HF8 := Lib.hid (show Own w2 wr.heap.size (.slice A8 m8 c8) (s.take Z) from hO8).far; have HY8 := Lib.hid y8; have HB2 := Lib.hid hb2; have HVS2 := Lib.hid (row_keep2 HVS.out hb2); clear hown2 hg2 hb2 y8 hO8)
                | (at_builtin; refine wpList_append_lies _ rfl (.tmp 49) (.tmp 53) 22 rfl w.heap.size 47 j0 (.agg #[.int .i64 0, .slice none 0 0]) 2 32 Try.underlying22 hj0 hy0 hy1 hy2 rfl (by decide) _ _ _ rfl (World.ownsRow.alloc HVS2.out _) ⟨w2.heap.size, 0, none⟩ 1 1 [.int .i64 t, .slice A8 m8 c8] rfl rfl (cell_two_new _ _ _ _) (by intro u hu; simp at hu; rcases hu with rfl | rfl <;> rfl) (by decide) (by have := HPN.out; unfold maxLen; omega) (by have := HPN.out; omega) (by have := HB.out.size; have := HB2.out.size; simp; omega) (w2.heap.size + 1) (by simp) ?_; intro g3 c4 w3 hown3 hg3 hlie hgl; have HFO3 := Lib.hid (FoundE.more HVS.out HONE.out HPAY.out HB2.out HY8.out HF8.out _ hown3 hg3 hlie); have HB4 : Hid (Below w.heap.size w w3) := Lib.hid ((((HB.out.trans (HB2.out.mono HB.out.size)).alloc (Nat.le_trans HB.out.size HB2.out.size) _).grown hg3 (by have := HB.out.size; have := HB2.out.size; simp; omega) (fun g hg' => (World.ownsRow.lt HVS2.out g hg').1))); clear hown3 hg3 hlie hgl))
              go_roundw
              case rel =>
                refine ⟨k', es ++ [(t, s.take Z)], t, _, m2 - (2 + Z), _, s.drop Z, rfl, rfl, HQ, Lib.hid (by have := HK.out; simp only [List.length_cons] at this; rw [List.length_drop]; omega), by rw [List.length_drop]; omega, by omega, Lib.hid (by have := HPN.out; simp only [List.length_append, List.length_cons, List.length_nil]; omega), ?_, ?_, ?_, HB4⟩
                · exact HFO3
                · show _ = _
                  rw [← HR1.out, HHE.out]; simp
                · show _ = _
                  rw [← HR2.out, HHE.out]
              case measure => simp only [lenOf]; omega
            · by_cases hcs : c2 = 2 + Z
              · subst hcs
                have hP : Byt w (some ⟨b, off + 2, none⟩) (2 + Z - 2) Z (s.take Z) := by
                    have h := byt_take (byt_drop HY.out 2 (by omega)) Z (by omega)
                    rw [show 2 + Z - 2 = Z by omega] at h ⊢; exact h
                have hQ : Byt w (some ⟨b, off, none⟩) (m2 - (2 + Z)) (2 + Z - (2 + Z)) (s.drop Z) := by
                    have e : s.drop Z = [] := List.length_eq_zero_iff.1 (by rw [List.length_drop]; omega)
                    rw [e, show m2 - (2 + Z) = 0 by omega]; exact byt_none (by unfold maxLen; omega) (by intro h; cases h)
                have HP := Lib.hid hP; have HQ := Lib.hid hQ
                clear hP hQ hmx
                obtain ⟨L1, hL1, hn1⟩ := nil_world wr
                have HL1 := Lib.hid hn1; clear hn1
                go_wp2_with (first
                  | (at_builtin; refine wpList_append_has rfl (.tmp 44) (.tmp 47) 25 rfl wr.heap.size 5 i0 (.int .u8 0) 1 Try.underlying25 hi0 hz0 hz1 hz2 rfl _ _ _ rfl HL1.out.2.1 _ _ _ _ rfl ((HP.out.below HB.out).below HL1.out.1).has (by unfold maxLen; omega) (by omega) (by have := HL1.out.2.2; omega) ?_; intro v8 w2 hown2 hg2; have hb2 : Below wr.heap.size wr w2 := (HL1.out.1.grown hg2 (by have := HL1.out.2.2; omega) (fun g hg' => (World.ownsRow.lt HL1.out.2.1 g hg').1)); have hO8 := own_of_nil hown2 HPL8.out HP.out.ran; obtain ⟨A8, m8, c8, rfl, hm8, y8⟩ := hO8.bytm; have HF8 := Lib.hid (show Own w2 wr.heap.size (.slice A8 m8 c8) (s.take Z) from hO8).far; have HY8 := Lib.hid y8; have HB2 := Lib.hid hb2; have HVS2 := Lib.hid (row_keep2 HVS.out hb2); clear hown2 hg2 hb2 y8 hO8)
                  | (at_builtin; refine wpList_append_lies _ rfl (.tmp 49) (.tmp 53) 22 rfl w.heap.size 47 j0 (.agg #[.int .i64 0, .slice none 0 0]) 2 32 Try.underlying22 hj0 hy0 hy1 hy2 rfl (by decide) _ _ _ rfl (World.ownsRow.alloc HVS2.out _) ⟨w2.heap.size, 0, none⟩ 1 1 [.int .i64 t, .slice A8 m8 c8] rfl rfl (cell_two_new _ _ _ _) (by intro u hu; simp at hu; rcases hu with rfl | rfl <;> rfl) (by decide) (by have := HPN.out; unfold maxLen; omega) (by have := HPN.out; omega) (by have := HB.out.size; have := HB2.out.size; simp; omega) (w2.heap.size + 1) (by simp) ?_; intro g3 c4 w3 hown3 hg3 hlie hgl; have HFO3 := Lib.hid (FoundE.more HVS.out HONE.out HPAY.out HB2.out HY8.out HF8.out _ hown3 hg3 hlie); have HB4 : Hid (Below w.heap.size w w3) := Lib.hid ((((HB.out.trans (HB2.out.mono HB.out.size)).alloc (Nat.le_trans HB.out.size HB2.out.size) _).grown hg3 (by have := HB.out.size; have := HB2.out.size; simp; omega) (fun g hg' => (World.ownsRow.lt HVS2.out g hg').1))); clear hown3 hg3 hlie hgl))
                go_roundw
                case rel =>
                  refine ⟨k', es ++ [(t, s.take Z)], t, _, m2 - (2 + Z), _, s.drop Z, rfl, rfl, HQ, Lib.hid (by have := HK.out; simp only [List.length_cons] at this; rw [List.length_drop]; omega), by rw [List.length_drop]; omega, by omega, Lib.hid (by have := HPN.out; simp only [List.length_append, List.length_cons, List.length_nil]; omega), ?_, ?_, ?_, HB4⟩
                  · exact HFO3
                  · show _ = _
                    rw [← HR1.out, HHE.out]; simp
                  · show _ = _
                    rw [← HR2.out, HHE.out]
                case measure => simp only [lenOf]; omega
              · skip
                have hP : Byt w (some ⟨b, off + 2, none⟩) (2 + Z - 2) (c2 - 2) (s.take Z) := by
                    have h := byt_take (byt_drop HY.out 2 (by omega)) Z (by omega)
                    rw [show 2 + Z - 2 = Z by omega]; exact h
                have hQ : Byt w (some ⟨b, off + (2 + Z), none⟩) (m2 - (2 + Z)) (c2 - (2 + Z)) (s.drop Z) := by
                    have h := byt_drop HY.out (2 + Z) (by omega)
                    rw [show 2 + Z = Z + 1 + 1 by omega] at h ⊢; exact h
                have HP := Lib.hid hP; have HQ := Lib.hid hQ
                clear hP hQ hmx
                obtain ⟨L1, hL1, hn1⟩ := nil_world wr
                have HL1 := Lib.hid hn1; clear hn1
                go_wp2_with (first
                  | (at_builtin; refine wpList_append_has rfl (.tmp 44) (.tmp 47) 25 rfl wr.heap.size 5 i0 (.int .u8 0) 1 Try.underlying25 hi0 hz0 hz1 hz2 rfl _ _ _ rfl HL1.out.2.1 _ _ _ _ rfl ((HP.out.below HB.out).below HL1.out.1).has (by unfold maxLen; omega) (by omega) (by have := HL1.out.2.2; omega) ?_; intro v8 w2 hown2 hg2; have hb2 : Below wr.heap.size wr w2 := (HL1.out.1.grown hg2 (by have := HL1.out.2.2; omega) (fun g hg' => (World.ownsRow.lt HL1.out.2.1 g hg').1)); have hO8 := own_of_nil hown2 HPL8.out HP.out.ran; obtain ⟨A8, m8, c8, rfl, hm8, y8⟩ := hO8.bytm; have HF8 := Lib.hid (show Own w2 wr.heap.size (.slice A8 m8 c8) (s.take Z) from hO8).far; have HY8 := Lib.hid y8; have HB2 := Lib.hid hb2; have HVS2 := Lib.hid (row_keep2 HVS.out hb2); clear hown2 hg2 hb2 y8 hO8)
                  | (at_builtin; refine wpList_append_lies _ rfl (.tmp 49) (.tmp 53) 22 rfl w.heap.size 47 j0 (.agg #[.int .i64 0, .slice none 0 0]) 2 32 Try.underlying22 hj0 hy0 hy1 hy2 rfl (by decide) _ _ _ rfl (World.ownsRow.alloc HVS2.out _) ⟨w2.heap.size, 0, none⟩ 1 1 [.int .i64 t, .slice A8 m8 c8] rfl rfl (cell_two_new _ _ _ _) (by intro u hu; simp at hu; rcases hu with rfl | rfl <;> rfl) (by decide) (by have := HPN.out; unfold maxLen; omega) (by have := HPN.out; omega) (by have := HB.out.size; have := HB2.out.size; simp; omega) (w2.heap.size + 1) (by simp) ?_; intro g3 c4 w3 hown3 hg3 hlie hgl; have HFO3 := Lib.hid (FoundE.more HVS.out HONE.out HPAY.out HB2.out HY8.out HF8.out _ hown3 hg3 hlie); have HB4 : Hid (Below w.heap.size w w3) := Lib.hid ((((HB.out.trans (HB2.out.mono HB.out.size)).alloc (Nat.le_trans HB.out.size HB2.out.size) _).grown hg3 (by have := HB.out.size; have := HB2.out.size; simp; omega) (fun g hg' => (World.ownsRow.lt HVS2.out g hg').1))); clear hown3 hg3 hlie hgl))
                go_roundw
                case rel =>
                  refine ⟨k', es ++ [(t, s.take Z)], t, _, m2 - (2 + Z), _, s.drop Z, rfl, rfl, HQ, Lib.hid (by have := HK.out; simp only [List.length_cons] at this; rw [List.length_drop]; omega), by rw [List.length_drop]; omega, by omega, Lib.hid (by have := HPN.out; simp only [List.length_append, List.length_cons, List.length_nil]; omega), ?_, ?_, ?_, HB4⟩
                  · exact HFO3
                  · show _ = _
                    rw [← HR1.out, HHE.out]; simp
                  · show _ = _
                    rw [← HR2.out, HHE.out]
                case measure => simp only [lenOf]; omega
end Go.Proofs.Ytinnmnhaeejfdaa
