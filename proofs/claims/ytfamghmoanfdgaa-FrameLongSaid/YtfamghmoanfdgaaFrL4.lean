/- Walk of the law FrameBack. -/
import Derived.Test.YtfamghmoanfdgaaRows
import Derived.Test.YtfamghmoanfdgaaFrL3
namespace Go.Proofs.Ytfamghmoanfdgaa
open Go.RowKit

theorem glueF {w : World} {base : Nat} {v : Value} {a r : List Int} {m : Nat} (h : w.ownsRow base 5 1 v (a.length + m) (C8 a ++ C8 r)) (hm : r.length = m) (ha : ∀ x ∈ a, 0 ≤ x ∧ x ≤ 255) (hr : ∀ x ∈ r, 0 ≤ x ∧ x ≤ 255) : Own w base v (a ++ r) := by
  subst hm
  exact ⟨by rw [List.length_append, C8_app]; exact h, ran_app ha hr⟩
/-- The payloads of a list, where they lie. -/
theorem Pls.cells {w : World} {A : Option Addr} {n c : Nat} {vs : List Value} {ps : List (List Int)} (h : Pls w A n c vs ps) : ∀ k, k < n → ∃ b off B' m d' p, A = some ⟨b, off, none⟩ ∧ w.cell? ⟨b, off + k, none⟩ = some (.slice B' m d') ∧ ps[k]? = some p ∧ Byt w B' m d' p := fun k hk => by
  obtain ⟨q1, q2, q3, q4, q5, q6, q7, q8, q9, q10, q11⟩ := h.at hk
  exact ⟨q1, q2, q3, q4, q5, q6, q7, q8, q10, q11⟩
theorem unwrap_frm {A : Option Addr} {n c : Nat} {p t : List Int} {w : World} (hA : Byt w A n c (frm p ++ t)) (hn : n ≤ 1000000000) (hp : p.length ≤ 1048576) :
    Calls Try.prog 20 #[.slice A n c] w fun e w' => ∃ v1 v2, e = .returned (.tuple #[v1, v2, .int .i64 0]) ∧ Own w' w.heap.size v1 p ∧ Own w' w.heap.size v2 t ∧ Below w.heap.size w w' := by
  have h := unwrap_any hA hn
  unfold UnwP at h
  rw [cutR_frm p t hp] at h
  exact h
theorem all_join {A : Option Addr} {n c : Nat} {ps : List (List Int)} {w : World} (hA : Byt w A n c (joinE ps)) (hn : n ≤ 100000) (hp : ∀ p ∈ ps, p.length ≤ 1048576) :
    Calls Try.prog 22 #[.slice A n c] w fun e w' => ∃ v, e = .returned (.tuple #[v, .int .i64 (n : Int)]) ∧ Found w' w.heap.size v ps ∧ Below w.heap.size w w' := by
  have h := all_any hA hn
  have hl := hA.len
  have e := allR_join [] ps hp
  rw [List.append_nil, allR_stop (b := []) (by rw [cutR_nil]; decide), List.append_nil] at e
  unfold AllP at h
  rw [e] at h
  refine h.mono fun e w' ⟨v, k, he, hk, hf, hb⟩ => ⟨v, ?_, hf, hb⟩
  rw [he, hk]; simp [hl]

set_option maxRecDepth 100000 in
set_option maxHeartbeats 16000000 in
theorem backGood (A : Option Addr) (n c : Nat) (vs : List Value) (ps : List (List Int)) (B : Option Addr) (m d : Nat) (t : List Int) (W : World) (h0 : Pls W A n c vs ps) (hB : Byt W B m d t) (hfew : fewB n ps = true) (hm : m ≤ 60) :
    Calls Try.prog 7 #[.slice A n c, .slice B m d] W fun e w' => e = .returned (.bool true) ∧ Below W.heap.size W w' := by
  obtain ⟨i0, hi0, hz0, hz1, hz2⟩ := info_parts byteInfo
  have HALV := Lib.hid alive_any
  have hFew := few_any h0
  rw [hfew] at hFew
  obtain ⟨hn, hs⟩ := few_bound h0.len hfew
  have hlen := few_len hs
  have hpl := h0.len
  have htl := hB.len
  have hJ := join_ok h0 (by omega) (by omega) (few_fits hs)
  have HFew := Lib.hid hFew; have HJ := Lib.hid hJ; have HA := Lib.hid h0; have HS := Lib.hid hs; have HT := Lib.hid hB; have HTL := Lib.hid htl; have HPL := Lib.hid hpl
  have HJL : Hid ((joinE ps).length ≤ 888) := Lib.hid (by omega)
  have hni : (n : Int) ≤ 12 := by omega
  have hmi : (m : Int) ≤ 60 := by omega
  clear hFew hJ h0 hs hlen hpl hn hfew hB htl hm
  go_enter Try.func7, Try.ntmps7
  go_wp2_with (first
    | (go_at_call 14; refine HFew.out.mono ?_; rintro e w1 ⟨rfl, rfl⟩)
    | (go_at_call 18; refine HJ.out.mono ?_; rintro e w2 ⟨v2, rfl, ho2, hb2⟩; obtain ⟨A2, m2, c2, rfl, hm2, y2⟩ := ho2.bytm; have Y2 := Lib.hid y2; have HB2 := Lib.hid hb2; obtain ⟨L3, hL3, hn3⟩ := nil_world w2; have HL3 := Lib.hid hn3; have M2 : Hid (m2 ≤ 888) := Lib.hid (by have := hm2.out; have := HJL.out; omega); clear ho2 hb2 y2 hn3)
    | (at_builtin; refine wpList_append_has rfl (.tmp 32) (.tmp 33) 22 rfl w2.heap.size 5 i0 (.int .u8 0) 1 Try.underlying22 hi0 hz0 hz1 hz2 rfl _ _ _ rfl HL3.out.2.1 _ _ _ _ rfl (Y2.out.below HL3.out.1).has (by have := M2.out; unfold maxLen; omega) (by have := M2.out; omega) (by have := HL3.out.2.2; omega) ?_; intro v4 w4 hown4 hg4; have hb4 : Below w2.heap.size w2 w4 := (HL3.out.1.grown hg4 (by have := HL3.out.2.2; omega) (fun g hg' => (World.ownsRow.lt HL3.out.2.1 g hg').1)); have HO4 := Lib.hid (own_of_nil hown4 hm2.out.symm Y2.out.ran); have HB4 := Lib.hid hb4; clear hown4 hg4 hb4)
    | (at_builtin; refine wpList_append_has rfl (.tmp 34) (.tmp 35) 22 rfl w2.heap.size 5 i0 (.int .u8 0) 1 Try.underlying22 hi0 hz0 hz1 hz2 rfl _ _ _ rfl HO4.out.1 _ _ _ _ rfl (HT.out.below (HB2.out.trans (HB4.out.mono HB2.out.size))).has (by have := HJL.out; unfold maxLen; omega) (by have := HJL.out; omega) HB4.out.size ?_; intro v5 w5 hown5 hg5; have hb5 : Below w2.heap.size w2 w5 := (HB4.out.grown hg5 HB4.out.size (fun g hg' => (World.ownsRow.lt HO4.out.1 g hg').1)); obtain ⟨A5, m5, c5, rfl, hm5, y5⟩ := (glueF hown5 HTL.out Y2.out.ran HT.out.ran).bytm; have Y5 := Lib.hid y5; have HB5 := Lib.hid (HB2.out.trans (hb5.mono HB2.out.size)); have Y2 := Lib.hid (Y2.out.below hb5); clear hown5 hg5 hb5 y5))
  go_loopw [7, 8] (fun r i wr => ∃ (k : Nat) (A6 : Option Addr) (m6 c6 : Nat), i = .int .i64 (k : Int) ∧ k ≤ n ∧ r = .slice A6 m6 c6 ∧ Byt wr A6 m6 c6 (joinE (ps.drop k) ++ t) ∧ Below w5.heap.size w5 wr) (fun _ i _ => n - (intOf i).toNat)
  case atStart => exact ⟨0, A5, m5, c5, rfl, by omega, rfl, Y5.out, Below.refl _ _⟩
  case round =>
    obtain ⟨k, A6, m6, c6, rfl, hk, rfl, hy, hb⟩ := hrel
    by_cases hlt : k < n
    · obtain ⟨b, off, B', m', d', p, rfl, hcell, hbl, hp, hBp⟩ := HA.out.at hlt
      have hlt' : (k : Int) < (n : Int) := by omega
      have hpl := HS.out p (List.mem_of_getElem? hp)
      rw [drop_at' hp, joinE, List.append_assoc] at hy
      obtain ⟨T, hT⟩ : ∃ T, joinE (ps.drop (k + 1)) ++ t = T := ⟨_, rfl⟩
      rw [hT] at hy
      have hTl : T.length ≤ 948 := by
        have h1 := congrArg List.length (show joinE (ps.take (k + 1)) ++ joinE (ps.drop (k + 1)) = joinE ps by rw [← joinE_app, List.take_append_drop])
        have h2 := congrArg List.length hT
        rw [List.length_append] at h1 h2
        have := HJL.out; have := HTL.out; omega
      have hfl : (frm p).length ≤ 100 := by
        have h3 := numE_len (z := p.length) (by omega) (by omega)
        simp only [frm, List.length_append, be4_len]; omega
      have hyl := hy.len
      rw [List.length_append] at hyl
      have HU := Lib.hid (unwrap_frm hy (by omega) (by omega))
      have HC := Lib.hid (fun (w1 : World) (h1 : Below W.heap.size W w1) => (h1.cell (p := ⟨b, off + k, none⟩) hbl).trans hcell)
      have HY := Lib.hid hy; have HB := Lib.hid hb; have HBp := Lib.hid hBp; have HT' := Lib.hid hT
      have HTL' := Lib.hid hTl; have HFL := Lib.hid hfl
      have HF : Hid (fits p = true) := Lib.hid (by simp [fits]; omega)
      clear hy hb hcell hBp hT hp hyl hpl hTl hfl
      obtain ⟨X, hX⟩ : ∃ X, frm p ++ T = X := ⟨_, rfl⟩
      rw [hX] at HY
      go_wp2_with (first
        | (go_at_call 20; refine HU.out.mono ?_; rintro e w7 ⟨v1, v2', rfl, ho1, ho2, hb7⟩; obtain ⟨E1, n1, e1, rfl, hn1, z1⟩ := ho1.bytm; obtain ⟨E2, n2, e2, rfl, hn2, z2⟩ := ho2.bytm; have Z1 := Lib.hid z1; have Z2 := Lib.hid z2; have HB7 := Lib.hid (HB.out.trans (hb7.mono HB.out.size)); have HR7 := Lib.hid (HY.out.below hb7); have hBB7 := HB5.out.trans (HB7.out.mono HB5.out.size); have hc7 := HC.out _ hBB7; have zl := HBp.out.below hBB7; clear ho1 ho2 hb7 hBB7)
        | (go_at_call 15; refine (wrap_ok Z1.out HF.out).mono ?_; rintro e w8 ⟨v8, rfl, ho8, hb8⟩; have HO8 := Lib.hid ho8; have Z28 := Lib.hid (Z2.out.below hb8); have HB8 := Lib.hid hb8; clear ho8 hb8)
        | (at_builtin; refine wpList_append_has rfl (.tmp 65) (.tmp 66) 22 rfl w7.heap.size 5 i0 (.int .u8 0) 1 Try.underlying22 hi0 hz0 hz1 hz2 rfl _ _ _ rfl HO8.out.1 _ _ _ _ rfl Z28.out.has (by have h1 := HFL.out; have h2 := HTL'.out; have h3 := hn2.out; unfold maxLen; omega) (by have h1 := HFL.out; have h2 := HTL'.out; have h3 := hn2.out; omega) HB8.out.size ?_; intro v9 w9 hown9 hg9; have hb9 : Below w7.heap.size w7 w9 := (HB8.out.grown hg9 HB8.out.size (fun g hg' => (World.ownsRow.lt HO8.out.1 g hg').1)); have ho9 := glueF hown9 hn2.out.symm HO8.out.2 Z2.out.ran; rw [hX] at ho9; obtain ⟨A9, m9, c9, rfl, hm9, y9⟩ := ho9.bytm; have yr9 := HR7.out.below hb9; have Z29 := Lib.hid (Z2.out.below hb9); have HB9 := Lib.hid (HB7.out.trans (hb9.mono HB7.out.size)); clear hown9 hg9 hb9 ho9)
        | (go_at_call 17; refine (same_yes (by assumption) (by assumption) (by rfl)).mono ?_; rintro e w6 ⟨rfl, rfl⟩))
      go_roundw
      case rel => exact ⟨k + 1, E2, n2, e2, by first | rfl | (simp; omega), by omega, rfl, HT'.out ▸ Z29.out, HB9.out⟩
      case measure => simp [intOf]; omega
    · obtain rfl : k = n := by omega
      rw [List.drop_eq_nil_of_le (by have := HPL.out; omega), joinE, List.nil_append] at hy
      have hBB := HB5.out.trans (hb.mono HB5.out.size)
      have zt := HT.out.below hBB
      have HAL := Lib.hid (all_join (Y2.out.below hb) (by have := M2.out; omega) (fun p hp => Nat.le_trans (HS.out p hp) (by decide)))
      have HBB := Lib.hid hBB
      clear hb hBB
      go_wp2_with (first
        | (go_at_call 22; refine HAL.out.mono ?_; rintro e w7 ⟨v7, rfl, hf7, hb7⟩; obtain ⟨E1, e1, rfl, g1⟩ := found_at' HPL.out hf7; have HBB7 := Lib.hid (HBB.out.trans (hb7.mono HBB.out.size)); have HQ := Lib.hid (sameAll_yes (c := e1) (d := c) (by omega) g1 (HA.out.below HBB7.out).cells); have hy7 := hy.below hb7; have zt7 := zt.below hb7; clear hf7 hb7 g1)
        | (go_at_call 24; refine HQ.out.mono ?_; rintro e w9 ⟨rfl, hb9⟩)
        | (go_at_call 17; refine (same_yes (by assumption) (by assumption) (by rfl)).mono ?_; rintro e w6 ⟨rfl, rfl⟩)
        | (go_at_call 13; refine (HALV.out _).mono ?_; rintro e w10 ⟨rfl, hb10⟩))
      go_ret
      exact ⟨rfl, HBB7.out.trans ((hb9.trans (hb10.mono hb9.size)).mono HBB7.out.size)⟩

set_option maxRecDepth 100000 in
set_option maxHeartbeats 4000000 in
theorem walkFrameBack (A : Option Addr) (n c : Nat) (vs : List Value) (ps : List (List Int)) (B : Option Addr) (m d : Nat) (zs : List Int) (W : World) (h0 : Pls W A n c vs ps) (h1 : IsRow .u8 W B m d zs) :
    Calls Try.prog 7 #[.slice A n c, .slice B m d] W fun e w' => e = .returned (.bool true) ∧ Below W.heap.size W w' := by
  by_cases hfew : fewB n ps = true
  · by_cases hm : m ≤ 60
    · exact backGood A n c vs ps B m d _ W h0 (byt_of_row h1) hfew hm
    · have HALV := Lib.hid alive_any
      have hFew := few_any h0
      rw [hfew] at hFew
      have HFew := Lib.hid hFew
      have hmi : (60 : Int) < (m : Int) := by omega
      clear hFew h0 hfew h1 hm
      go_enter Try.func7, Try.ntmps7
      go_wp2_with (first
        | (go_at_call 14; refine HFew.out.mono ?_; rintro e w1 ⟨rfl, rfl⟩)
        | (go_at_call 13; refine (HALV.out _).mono ?_; rintro e w7 ⟨rfl, hb7⟩))
      go_ret
      exact ⟨rfl, hb7⟩
  · rw [Bool.not_eq_true] at hfew
    have HALV := Lib.hid alive_any
    have hFew := few_any h0
    rw [hfew] at hFew
    have HFew := Lib.hid hFew
    clear hFew h0 hfew h1
    go_enter Try.func7, Try.ntmps7
    go_wp2_with (first
      | (go_at_call 14; refine HFew.out.mono ?_; rintro e w1 ⟨rfl, rfl⟩)
      | (go_at_call 13; refine (HALV.out _).mono ?_; rintro e w7 ⟨rfl, hb7⟩))
    go_ret
    exact ⟨rfl, hb7⟩
end Go.Proofs.Ytfamghmoanfdgaa
