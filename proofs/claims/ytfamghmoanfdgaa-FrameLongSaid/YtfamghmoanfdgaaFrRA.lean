/- Walks: Unwrap and All of the reference. -/
import Derived.Test.YtfamghmoanfdgaaRows
import Derived.Test.YtfamghmoanfdgaaFrRU2
namespace Go.Proofs.Ytfamghmoanfdgaa
open Go.RowKit

theorem refUnwrap_any {A : Option Addr} {n c : Nat} {l : List Int} {w : World} (hA : Byt w A n c l) (hn : n ≤ 100000000) :
    Calls Try.prog 21 #[.slice A n c] w (UnwP l w) := by
  by_cases her : (numR (l, 0)).2.2 = 0
  · by_cases hsz : (numR (l, 0)).1 < 0 ∨ 1048576 < (numR (l, 0)).1
    · exact refUnwrap_size hA hn her hsz
    · obtain ⟨sz, hV⟩ : ∃ sz : Nat, (numR (l, 0)).1 = (sz : Int) := ⟨(numR (l, 0)).1.toNat, by omega⟩
      obtain ⟨R, hR⟩ : ∃ R, (numR (l, 0)).2.1 = R := ⟨_, rfl⟩
      have hS : numR (l, 0) = ((sz : Int), (R, 0)) := Prod.ext hV (Prod.ext hR her)
      by_cases hsh : R.length < 4 + sz
      · exact refUnwrap_short hA hn hS (by omega) hsh
      · exact refUnwrap_full hA hn hS (by omega) hsh
  · exact refUnwrap_err hA hn her
theorem allF_nil (k : Nat) : allF k [] = ([], []) := by
  cases k with
  | zero => rfl
  | succ k => rw [allF, if_neg (by rw [cutR_nil]; decide)]
set_option maxRecDepth 100000 in
set_option maxHeartbeats 8000000 in
theorem refAll_any {A : Option Addr} {n c : Nat} {l : List Int} {w : World} (hA : Byt w A n c l) (hn : n ≤ 100000) :
    Calls Try.prog 23 #[.slice A n c] w (AllP l w) := by
  obtain ⟨i0, hi0, hz0, hz1, hz2⟩ := info_parts sliceInfo
  obtain ⟨j0, hj0, hy0, hy1, hy2⟩ := info_parts byteInfo
  have hl := hA.len
  have hni : (n : Int) ≤ 100000 := by omega
  have HL := Lib.hid hl
  obtain ⟨L1, hL1, hn1⟩ := nil_world w
  have HL1 := Lib.hid hn1
  have HA := Lib.hid hA
  have HA1 := Lib.hid (hA.below hn1.1)
  clear hA hl hn hn1
  go_enter Try.func23, Try.ntmps23
  go_wp2_with (at_builtin; refine wpList_append_has rfl (.tmp 9) (.tmp 10) 22 rfl w.heap.size 5 j0 (.int .u8 0) 1 Try.underlying22 hj0 hy0 hy1 hy2 rfl _ _ _ rfl HL1.out.2.1 _ _ _ _ rfl HA1.out.has (by unfold maxLen; omega) (by omega) (by have := HL1.out.2.2; omega) ?_; intro v8 w2 hown2 hg2; have hb2 : Below w.heap.size w w2 := (HL1.out.1.grown hg2 (by have := HL1.out.2.2; omega) (fun g hg' => (World.ownsRow.lt HL1.out.2.1 g hg').1)); have hO8 := own_of_nil hown2 HL.out HA.out.ran; obtain ⟨A8, m8, c8, rfl, hm8, y8⟩ := hO8.bytm; have HY8 := Lib.hid y8; have HB2 := Lib.hid hb2; clear hown2 hg2 hb2 y8 hO8)
  go_loopw [4, 5] (fun v r wr => ∃ (k : Nat) (ps : List (List Int)) (A2 : Option Addr) (m2 c2 : Nat) (S : List Int), r = .slice A2 m2 c2 ∧ Byt wr A2 m2 c2 S ∧ Hid (∀ x, A2 = some x → S ≠ [] → v.ownBlock ≠ some x.block) ∧ S.length < k ∧ S.length ≤ n ∧ ps.length ≤ n - S.length ∧ Found wr w.heap.size v ps ∧
    Hid (ps ++ (allF k S).1 = (allR l).1) ∧ Hid ((allF k S).2 = (allR l).2) ∧ Below w.heap.size w wr) (fun _ r _ => lenOf r)
  case atStart => exact ⟨l.length + 1, [], A8, m8, c8, l, rfl, HY8.out, (show ∀ x, A8 = some x → l ≠ [] → (Value.slice none 0 0).ownBlock ≠ some x.block by intro x _ _ h; cases h), by omega, by have := HL.out; omega, by simp, ⟨[], World.ownsRow_nil _ _ _ _, by simp, by simp⟩, rfl, rfl, HB2.out⟩
  case round =>
    obtain ⟨k, ps, A2, m2, c2, S, rfl, hy, hap, hk, hSn, hpn, hfo, hrel, hrest, hb⟩ := hrel
    obtain ⟨k', rfl⟩ : ∃ k', k = k' + 1 := ⟨k - 1, by omega⟩
    have hyl := hy.len
    by_cases hz : m2 = 0
    · have hS0 : S = [] := List.length_eq_zero_iff.1 (by omega)
      subst hS0
      have hpos : ¬ ((0 : Int) < (m2 : Int)) := by omega
      rw [allF_nil] at hrel hrest
      have HR : Hid ((allR l).1 = ps ∧ (allR l).2 = []) := Lib.hid ⟨by rw [← hrel.out]; simp, hrest.out.symm⟩
      have HFO := Lib.hid hfo; have HB := Lib.hid hb
      clear hrel hrest hfo hy hap hk hyl hb
      subst hz
      go_wp2
      go_ret2
      refine ⟨_, _, rfl, ?_, ?_, HB.out⟩
      · rw [HR.out.2]; have := HL.out; simp; omega
      · rw [HR.out.1]; exact HFO.out
    · have hpos : (0 : Int) < (m2 : Int) := by omega
      have HC := refUnwrap_any hy (by omega)
      have hlen := cutR_len (b := S)
      have hstep : allF (k' + 1) S = if (cutR S).2.2 = 0 then ((cutR S).1 :: (allF k' (cutR S).2.1).1, (allF k' (cutR S).2.1).2) else ([], S) := rfl
      obtain ⟨vs, hvs, hone, hpay⟩ := hfo
      unfold UnwP at HC
      obtain ⟨⟨P, S2, er⟩, hS⟩ : ∃ T, cutR S = T := ⟨_, rfl⟩
      rw [hS] at HC hlen hstep
      simp only at HC hlen hstep
      have HCC := Lib.hid HC; have HB := Lib.hid hb; have HVS := Lib.hid hvs; have HONE := Lib.hid hone; have HPAY := Lib.hid hpay
      have HK := Lib.hid hk; have HYL := Lib.hid hyl
      clear HC hy hb hvs hone hpay hS hk hyl hap
      by_cases her : er = 0
      · subst her
        have hl2 := hlen rfl
        rw [if_pos rfl] at hstep
        have HST := Lib.hid hstep
        clear hstep hlen
        go_wp2_with (first
          | (go_at_call 21; refine HCC.out.mono ?_; rintro e w1 ⟨v1, v2, rfl, ho1, ho2, hb1⟩; obtain ⟨A5, m5, c5, rfl, hm5, y5⟩ := ho1.bytm; obtain ⟨A4, m4, d4, rfl, hm4, y4⟩ := ho2.bytm; have HF5 := Lib.hid (show Own w1 wr.heap.size (.slice A5 m5 c5) P from ho1).far; have HF4 := Lib.hid (show Own w1 wr.heap.size (.slice A4 m4 d4) S2 from ho2).far; have HY5 := Lib.hid y5; have HY4 := Lib.hid y4; have HB1 := Lib.hid hb1; have HVS2 := Lib.hid (row_keep HVS.out hb1); clear ho1 ho2 hb1 y5 y4)
          | (at_builtin; refine wpList_append_lies _ rfl (.tmp 23) (.tmp 25) 27 rfl w.heap.size 22 i0 (.slice none 0 0) 1 24 Try.underlying27 hi0 hz0 hz1 hz2 rfl (by decide) _ _ _ rfl (World.ownsRow.alloc HVS2.out _) ⟨w1.heap.size, 0, none⟩ 1 1 [.slice A5 m5 c5] rfl rfl (cell_one_new _ _ _) (by intro u hu; simp at hu; subst hu; rfl) (by decide) (by unfold maxLen; omega) (by omega) (by have := HB.out.size; have := HB1.out.size; simp; omega) (w1.heap.size + 1) (by simp) ?_; intro g3 c4 w3 hown3 hg3 hlie hgl; have HFO := Lib.hid (Found.more HVS.out HONE.out HPAY.out HB1.out HY5.out HF5.out _ hown3 hg3 hlie); have HR4 : Hid (Byt w3 A4 m4 d4 S2) := Lib.hid ((HY4.out.below ((Below.refl _ _).alloc (Nat.le_refl _) _)).grown hg3 (fun x hx hne h => by have h5 := (HF4.out x hx hne).1; have h6 := (HVS.out.lt _ h).2; omega)); have HD4 : Hid (∀ x, A4 = some x → S2 ≠ [] → (Value.slice (some ⟨g3, 0, none⟩) (ps.length + 1) c4).ownBlock ≠ some x.block) := Lib.hid (fun x hx hne h => by have h5 := HF4.out x hx hne; have h7 : g3 = x.block := Option.some.inj h; exact hlie.elim (fun h8 => by have h6 := (HVS.out.lt _ h8).2; omega) (fun h8 => by omega)); have HB4 : Hid (Below w.heap.size w w3) := Lib.hid ((((HB.out.trans (HB1.out.mono HB.out.size)).alloc (Nat.le_trans HB.out.size HB1.out.size) _).grown hg3 (by have := HB.out.size; have := HB1.out.size; simp; omega) (fun g hg' => (World.ownsRow.lt HVS2.out g hg').1))); clear hown3 hg3 hlie hgl))
        go_roundw
        case rel =>
          refine ⟨k', ps ++ [P], A4, m4, d4, S2, rfl, HR4.out, HD4.out, by have := HK.out; omega, by omega, by simp; omega, ?_, ?_, ?_, HB4.out⟩
          · have := HFO.out
            rwa [show ps.length + 1 = (ps ++ [P]).length by simp] at this
          · show _ = _
            rw [← hrel.out, HST.out]; simp
          · show _ = _
            rw [← hrest.out, HST.out]
        case measure => simp only [lenOf]; have := hm4.out; have := HYL.out; omega
      · have hne : (er != 0) = true := by simp [her]
        rw [if_neg her] at hstep
        have HR : Hid ((allR l).1 = ps ∧ (allR l).2 = S) := Lib.hid ⟨by rw [← hrel.out, hstep]; simp, by rw [← hrest.out, hstep]⟩
        clear hstep hlen hrel hrest
        go_wp2_with (go_at_call 21; refine HCC.out.mono ?_; rintro e w1 ⟨v1, v2, rfl, -, -, hb1⟩)
        go_ret2
        refine ⟨_, _, rfl, ?_, ?_, HB.out.trans (hb1.mono HB.out.size)⟩
        · rw [HR.out.2]; have := HL.out; have := HYL.out; unfold wrap64; omega
        · rw [HR.out.1]
          refine ⟨vs, row_keep HVS.out hb1, HONE.out, fun i p hp => ?_⟩
          obtain ⟨B, q, e, g1, g2, g3⟩ := HPAY.out i p hp
          exact ⟨B, q, e, g1, g2.below hb1, g3⟩
end Go.Proofs.Ytfamghmoanfdgaa
