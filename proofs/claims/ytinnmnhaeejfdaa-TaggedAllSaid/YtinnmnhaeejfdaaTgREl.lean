/- Walk: the elements of bytes in the reference. -/
import Derived.Test.YtinnmnhaeejfdaaTgE
import Derived.Deep.Cut
namespace Go.Proofs.Ytinnmnhaeejfdaa
open Go.RowKit

set_option maxRecDepth 100000 in
set_option maxHeartbeats 8000000 in
theorem refElements_any {A : Option Addr} {n c : Nat} {l : List Int} {w : World} (hA : Byt w A n c l) (hn : n ≤ 100000) :
    Calls Try.prog 15 #[.slice A n c] w (ElmP l w) := by
  obtain ⟨i0, hi0, hz0, hz1, hz2⟩ := info_parts byteInfo
  obtain ⟨j0, hj0, hy0, hy1, hy2⟩ := info_parts elInfo
  have hl := hA.len
  have hni : (n : Int) ≤ 100000 := by omega
  have HL := Lib.hid hl
  have HY := Lib.hid hA
  clear hA hl hn
  go_enter Try.func15, Try.ntmps15
  go_wp2
  go_loopw [4, 5, 6] (fun v pr r wr => ∃ (k : Nat) (es : List El) (p : Int) (j : Nat), pr = .int .i64 p ∧ r = .int .i64 (j : Int) ∧ j ≤ n ∧ Hid (n - j < k) ∧ Hid (es.length ≤ j) ∧ Hid (FoundE wr w.heap.size v es) ∧
    Hid (es ++ (elmF k (l.drop j) p).1 = (elmR l).1) ∧ Hid ((elmF k (l.drop j) p).2 = (elmR l).2) ∧ Hid (Below w.heap.size w wr)) (fun _ _ i _ => n - (intOf i).toNat)
  case atStart => exact ⟨l.length + 1, [], 0, 0, rfl, rfl, by omega, Lib.hid (by have := HL.out; omega), Lib.hid (by simp), ⟨[], World.ownsRow_nil _ _ _ _, by simp, by simp⟩, rfl, rfl, Below.refl _ _⟩
  case round =>
    obtain ⟨k, es, p, j, rfl, rfl, hjn, HK, HPN, HFO, HR1, HR2, HB⟩ := hrel
    obtain ⟨k', rfl⟩ : ∃ k', k = k' + 1 := ⟨k - 1, by have := HK.out; omega⟩
    obtain ⟨S, hS⟩ : ∃ S, l.drop j = S := ⟨_, rfl⟩
    have hSl := congrArg List.length hS
    rw [List.length_drop, HL.out] at hSl
    have hat : ∀ (i : Nat) (x : Int), S[i]? = some x → ∃ b off, A = some ⟨b, off, none⟩ ∧ w.cell? ⟨b, off + (j + i), none⟩ = some (.int .u8 x) ∧ b < w.heap.size ∧ 0 ≤ x ∧ x ≤ 255 := by
      intro i x hi
      rw [← hS, List.getElem?_drop] at hi
      have hlt := (List.getElem?_eq_some_iff.1 hi).1
      obtain ⟨b, off, y, h1, h2, h3, h4⟩ := HY.out.at (k := j + i) (by have := HL.out; omega)
      rw [hi] at h2
      obtain rfl := Option.some.inj h2
      exact ⟨b, off, h1, h3, h4, HY.out.ran _ (List.mem_of_getElem? hi)⟩
    rw [hS] at HR1 HR2
    match S, hSl, hS, hat with
    | [], hSl, hS, hat =>
      obtain rfl : j = n := by simp at hSl; omega
      have HE1 : Hid ((elmR l).1 = es) := Lib.hid (by rw [← HR1.out, elmF_nil]; simp)
      have HE2 : Hid ((elmR l).2 = 0) := Lib.hid (by rw [← HR2.out, elmF_nil])
      clear hSl hS hat
      go_wp2
      go_ret2
      exact ElmP.yes HE2.out HE1.out rfl HFO.out HB.out
    | [t], hSl, hS, hat =>
      have hj1 : n = j + 1 := by simp at hSl; omega
      obtain ⟨b, off, rfl, hc, hbl, ht0, ht1⟩ := hat 0 t rfl
      have hc' := (HB.out.cell (p := ⟨b, off + (j + 0), none⟩) hbl).trans hc
      rw [Nat.add_zero] at hc'
      have hji : (j : Int) < (n : Int) := by omega
      have hj1i : (j : Int) + 1 = (n : Int) := by omega
      clear hc hbl hSl hS hat hj1
      by_cases c1 : t = 0
      · have HE2 : Hid ((elmR l).2 = 6) := Lib.hid (by rw [← HR2.out, elmF_one, if_pos c1])
        subst c1
        clear ht0 ht1
        go_wp2
        go_ret2
        exact ElmP.no HE2.out (by decide) rfl HB.out
      · by_cases c2 : t ≤ p
        · have HE2 : Hid ((elmR l).2 = 9) := Lib.hid (by rw [← HR2.out, elmF_one, if_neg c1, if_pos c2])
          go_wp2
          go_ret2
          exact ElmP.no HE2.out (by decide) rfl HB.out
        · have HE2 : Hid ((elmR l).2 = 2) := Lib.hid (by rw [← HR2.out, elmF_one, if_neg c1, if_neg c2])
          go_wp2
          go_ret2
          exact ElmP.no HE2.out (by decide) rfl HB.out
    | t :: z :: s, hSl, hS, hat =>
      have hm2 : j + 2 ≤ n := by simp at hSl; omega
      obtain ⟨b, off, rfl, hc, hbl, ht0, ht1⟩ := hat 0 t rfl
      obtain ⟨b', off', hA', hcx, -, hz0', hz1'⟩ := hat 1 z rfl
      obtain ⟨rfl, rfl⟩ : b = b' ∧ off = off' := by simpa using hA'
      have hc' := (HB.out.cell (p := ⟨b, off + (j + 0), none⟩) hbl).trans hc
      have hcx' := (HB.out.cell (p := ⟨b, off + (j + 1), none⟩) hbl).trans hcx
      rw [Nat.add_zero] at hc'
      obtain ⟨Z, rfl⟩ : ∃ Z : Nat, z = Z := ⟨z.toNat, by omega⟩
      have hsl : (s.length : Int) = (n : Int) - (j : Int) - 2 := by simp at hSl; omega
      have hsd : l.drop (j + 2) = s := by rw [← List.drop_drop, hS]; rfl
      have hji : (j : Int) < (n : Int) := by omega
      have hj1i : (j : Int) + 1 < (n : Int) := by omega
      have hj1e : ((j : Int) + 1 == (n : Int)) = false := by simp; omega
      have HE := elmF_cons k' t (Z : Int) s p
      clear hc hcx hbl hA' hSl hat
      by_cases c1 : t = 0
      · have HE2 : Hid ((elmR l).2 = 6) := Lib.hid (by rw [← HR2.out, HE, if_pos c1])
        subst c1
        clear ht0 ht1 HE
        go_wp2
        go_ret2
        exact ElmP.no HE2.out (by decide) rfl HB.out
      · rw [if_neg c1] at HE
        by_cases c2' : t ≤ p
        · have HE2 : Hid ((elmR l).2 = 9) := Lib.hid (by rw [← HR2.out, HE, if_pos c2'])
          clear HE
          go_wp2
          go_ret2
          exact ElmP.no HE2.out (by decide) rfl HB.out
        · rw [if_neg c2'] at HE
          by_cases c3 : (n : Int) < (j : Int) + 2 + (Z : Int)
          · have HE2 : Hid ((elmR l).2 = 2) := Lib.hid (by rw [← HR2.out, HE, if_pos (by omega)])
            clear HE
            go_wp2
            go_ret2
            exact ElmP.no HE2.out (by decide) rfl HB.out
          · rw [if_neg (by omega), Int.toNat_natCast] at HE
            have HHE := Lib.hid HE
            have HSD : Hid (l.drop (j + 2 + Z) = s.drop Z) := Lib.hid (by rw [← List.drop_drop, hsd])
            have hSD : l.drop (j + 2) = s := hsd
            have HSD2 := Lib.hid hSD
            clear HE hSD hsd hS
            have hcap := HY.out.cap
            have hmx := HY.out.max
            obtain ⟨vs, hvs, hone, hpay⟩ := HFO.out
            have HVS := Lib.hid hvs; have HONE := Lib.hid hone; have HPAY := Lib.hid hpay
            have HPL8 : Hid ((s.take Z).length = j + 2 + Z - (j + 2)) := Lib.hid (by rw [List.length_take]; omega)
            clear hvs hone hpay
            by_cases hc2 : c = j + 2
            · subst hc2
              have hP : Byt w (some ⟨b, off, none⟩) (j + 2 + Z - (j + 2)) (j + 2 - (j + 2)) (s.take Z) := by
                  have e : s.take Z = [] := List.length_eq_zero_iff.1 (by rw [HPL8.out]; omega)
                  rw [e, show j + 2 + Z - (j + 2) = 0 by omega]; exact byt_none (by unfold maxLen; omega) (by intro h; cases h)
              have HP := Lib.hid hP
              clear hP hmx
              obtain ⟨L1, hL1, hn1⟩ := nil_world wr
              have HL1 := Lib.hid hn1; clear hn1
              go_wp2_with (first
                | (at_builtin; refine wpList_append_has rfl (.tmp 50) (.tmp 58) 25 rfl wr.heap.size 5 i0 (.int .u8 0) 1 Try.underlying25 hi0 hz0 hz1 hz2 rfl _ _ _ rfl HL1.out.2.1 _ _ _ _ rfl ((HP.out.below HB.out).below HL1.out.1).has (by unfold maxLen; omega) (by omega) (by have := HL1.out.2.2; omega) ?_; intro v8 w2 hown2 hg2; have hb2 : Below wr.heap.size wr w2 := (HL1.out.1.grown hg2 (by have := HL1.out.2.2; omega) (fun g hg' => (World.ownsRow.lt HL1.out.2.1 g hg').1)); have hO8 := own_of_nil hown2 HPL8.out HP.out.ran; obtain ⟨A8, m8, c8, rfl, hm8, y8⟩ := hO8.bytm; have HF8 := Lib.hid (show Own w2 wr.heap.size (.slice A8 m8 c8) (s.take Z) from hO8).far; have HY8 := Lib.hid y8; have HB2 := Lib.hid hb2; have HVS2 := Lib.hid (row_keep2 HVS.out hb2); clear hown2 hg2 hb2 y8 hO8)
                | (at_builtin; refine wpList_append_lies _ rfl (.tmp 48) (.tmp 61) 22 rfl w.heap.size 47 j0 (.agg #[.int .i64 0, .slice none 0 0]) 2 32 Try.underlying22 hj0 hy0 hy1 hy2 rfl (by decide) _ _ _ rfl (World.ownsRow.alloc HVS2.out _) ⟨w2.heap.size, 0, none⟩ 1 1 [.int .i64 t, .slice A8 m8 c8] rfl rfl (cell_two_new _ _ _ _) (by intro u hu; simp at hu; rcases hu with rfl | rfl <;> rfl) (by decide) (by have := HPN.out; unfold maxLen; omega) (by have := HPN.out; omega) (by have := HB.out.size; have := HB2.out.size; simp; omega) (w2.heap.size + 1) (by simp) ?_; intro g3 c4 w3 hown3 hg3 hlie hgl; have HFO3 := Lib.hid (FoundE.more HVS.out HONE.out HPAY.out HB2.out HY8.out HF8.out _ hown3 hg3 hlie); have HB4 : Hid (Below w.heap.size w w3) := Lib.hid ((((HB.out.trans (HB2.out.mono HB.out.size)).alloc (Nat.le_trans HB.out.size HB2.out.size) _).grown hg3 (by have := HB.out.size; have := HB2.out.size; simp; omega) (fun g hg' => (World.ownsRow.lt HVS2.out g hg').1))); clear hown3 hg3 hlie hgl))
              go_roundw
              case rel =>
                refine ⟨k', es ++ [(t, s.take Z)], t, j + 2 + Z, rfl, by first | rfl | (simp; omega), by omega, Lib.hid (by have := HK.out; omega), Lib.hid (by have := HPN.out; simp only [List.length_append, List.length_cons, List.length_nil]; omega), HFO3, ?_, ?_, HB4⟩
                · show _ = _
                  rw [← HR1.out, HHE.out, HSD.out]; simp
                · show _ = _
                  rw [← HR2.out, HHE.out, HSD.out]
              case measure => simp [intOf]; omega
            · skip
              have hP : Byt w (some ⟨b, off + (j + 2), none⟩) (j + 2 + Z - (j + 2)) (c - (j + 2)) (s.take Z) := by
                  have h := byt_take (byt_drop HY.out (j + 2) (by omega)) Z (by omega)
                  rw [HSD2.out] at h
                  rw [show j + 2 + Z - (j + 2) = Z by omega]; exact h
              have HP := Lib.hid hP
              clear hP hmx
              obtain ⟨L1, hL1, hn1⟩ := nil_world wr
              have HL1 := Lib.hid hn1; clear hn1
              go_wp2_with (first
                | (at_builtin; refine wpList_append_has rfl (.tmp 50) (.tmp 58) 25 rfl wr.heap.size 5 i0 (.int .u8 0) 1 Try.underlying25 hi0 hz0 hz1 hz2 rfl _ _ _ rfl HL1.out.2.1 _ _ _ _ rfl ((HP.out.below HB.out).below HL1.out.1).has (by unfold maxLen; omega) (by omega) (by have := HL1.out.2.2; omega) ?_; intro v8 w2 hown2 hg2; have hb2 : Below wr.heap.size wr w2 := (HL1.out.1.grown hg2 (by have := HL1.out.2.2; omega) (fun g hg' => (World.ownsRow.lt HL1.out.2.1 g hg').1)); have hO8 := own_of_nil hown2 HPL8.out HP.out.ran; obtain ⟨A8, m8, c8, rfl, hm8, y8⟩ := hO8.bytm; have HF8 := Lib.hid (show Own w2 wr.heap.size (.slice A8 m8 c8) (s.take Z) from hO8).far; have HY8 := Lib.hid y8; have HB2 := Lib.hid hb2; have HVS2 := Lib.hid (row_keep2 HVS.out hb2); clear hown2 hg2 hb2 y8 hO8)
                | (at_builtin; refine wpList_append_lies _ rfl (.tmp 48) (.tmp 61) 22 rfl w.heap.size 47 j0 (.agg #[.int .i64 0, .slice none 0 0]) 2 32 Try.underlying22 hj0 hy0 hy1 hy2 rfl (by decide) _ _ _ rfl (World.ownsRow.alloc HVS2.out _) ⟨w2.heap.size, 0, none⟩ 1 1 [.int .i64 t, .slice A8 m8 c8] rfl rfl (cell_two_new _ _ _ _) (by intro u hu; simp at hu; rcases hu with rfl | rfl <;> rfl) (by decide) (by have := HPN.out; unfold maxLen; omega) (by have := HPN.out; omega) (by have := HB.out.size; have := HB2.out.size; simp; omega) (w2.heap.size + 1) (by simp) ?_; intro g3 c4 w3 hown3 hg3 hlie hgl; have HFO3 := Lib.hid (FoundE.more HVS.out HONE.out HPAY.out HB2.out HY8.out HF8.out _ hown3 hg3 hlie); have HB4 : Hid (Below w.heap.size w w3) := Lib.hid ((((HB.out.trans (HB2.out.mono HB.out.size)).alloc (Nat.le_trans HB.out.size HB2.out.size) _).grown hg3 (by have := HB.out.size; have := HB2.out.size; simp; omega) (fun g hg' => (World.ownsRow.lt HVS2.out g hg').1))); clear hown3 hg3 hlie hgl))
              go_roundw
              case rel =>
                refine ⟨k', es ++ [(t, s.take Z)], t, j + 2 + Z, rfl, by first | rfl | (simp; omega), by omega, Lib.hid (by have := HK.out; omega), Lib.hid (by have := HPN.out; simp only [List.length_append, List.length_cons, List.length_nil]; omega), HFO3, ?_, ?_, HB4⟩
                · show _ = _
                  rw [← HR1.out, HHE.out, HSD.out]; simp
                · show _ = _
                  rw [← HR2.out, HHE.out, HSD.out]
              case measure => simp [intOf]; omega
end Go.Proofs.Ytinnmnhaeejfdaa
