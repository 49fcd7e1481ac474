/- Walk of the law TaggedElements. -/
import Derived.Test.YtinnmnhaeejfdaaRows
import Derived.Test.YtinnmnhaeejfdaaTgAwk
import Derived.Test.YtinnmnhaeejfdaaTgREl
import Derived.Test.YtinnmnhaeejfdaaTgSame
namespace Go.Proofs.Ytinnmnhaeejfdaa
open Go.RowKit

theorem elm_back : ∀ (k : Nat) (l : List Int) (p : Int), l.length < k → (∀ x ∈ l, 0 ≤ x ∧ x ≤ 255) → (elmF k l p).2 = 0 → putE (elmF k l p).1 = l ∧ bldE (elmF k l p).1 p = 0 ∧ (elmF k l p).1.length ≤ l.length
  | 0, l, p, h, _, _ => by omega
  | k + 1, [], p, _, _, _ => by rw [elmF_nil]; exact ⟨rfl, rfl, Nat.le_refl _⟩
  | k + 1, [t], p, _, _, h => by
    rw [elmF_one] at h
    split at h
    · exact absurd h (by decide)
    · split at h <;> exact absurd h (by decide)
  | k + 1, t :: z :: s, p, hk, hr, h => by
    have ht := hr t (List.mem_cons_self ..)
    have hz := hr z (List.mem_cons_of_mem _ (List.mem_cons_self ..))
    rw [elmF_cons] at h ⊢
    by_cases c1 : t = 0
    · rw [if_pos c1] at h; exact absurd h (by decide)
    · rw [if_neg c1] at h ⊢
      by_cases c2 : t ≤ p
      · rw [if_pos c2] at h; exact absurd h (by decide)
      · rw [if_neg c2] at h ⊢
        by_cases c3 : (s.length : Int) < z
        · rw [if_pos c3] at h; exact absurd h (by decide)
        · rw [if_neg c3] at h ⊢
          simp only [List.length_cons] at hk
          have hd : (s.drop z.toNat).length < k := by rw [List.length_drop]; omega
          obtain ⟨h1, h2, h3⟩ := elm_back k (s.drop z.toNat) t hd (fun x hx => hr x (List.mem_cons_of_mem _ (List.mem_cons_of_mem _ (List.mem_of_mem_drop hx)))) h
          have hl : (s.take z.toNat).length = z.toNat := by rw [List.length_take]; omega
          refine ⟨?_, ?_, ?_⟩
          · simp only [putE]
            rw [h1, hl, List.take_append_drop, show ((z.toNat : Nat) : Int) = z by omega]
          · simp only [bldE]
            rw [if_neg (by omega), if_neg c2, if_neg (by rw [hl]; omega)]
            exact h2
          · simp only [List.length_cons]
            rw [List.length_drop] at h3
            omega
theorem Els.below {w w' : World} {A : Option Addr} {n : Nat} {es : List El} (h : Els w A n es none) (hb : Below w.heap.size w w') : Els w' A n es none :=
  h.grown ⟨hb.os, hb.tape, hb.output, hb.size, fun k hk _ => hb.block k hk⟩
theorem elm_le : ∀ (k : Nat) (l : List Int) (p : Int), (elmF k l p).1.length ≤ l.length
  | 0, l, p => by simp [elmF]
  | k + 1, [], p => by rw [elmF_nil]; simp
  | k + 1, [t], p => by by_cases h : t = 0 <;> by_cases h2 : t ≤ p <;> simp [elmF_one, h, h2]
  | k + 1, t :: z :: s, p => by
    rw [elmF_cons]
    split
    · simp
    · split
      · simp
      · split
        · simp
        · have := elm_le k (s.drop z.toNat) t
          rw [List.length_drop] at this
          simp only [List.length_cons]; omega
theorem els_none {w : World} : Els w none 0 [] none := ⟨rfl, fun k e h => by simp at h⟩
theorem els_n {w : World} {base : Nat} {v : Value} {es : List El} (h : FoundE w base v es) : ∃ A N c, v = .slice A N c ∧ N = es.length ∧ Els w A N es none := by
  obtain ⟨A, c, h1, h2⟩ := h.els
  exact ⟨A, _, c, h1, rfl, h2⟩
set_option maxRecDepth 100000 in
set_option maxHeartbeats 8000000 in
theorem elmGood {A : Option Addr} {n c : Nat} {l : List Int} {W : World} (hA : Byt W A n c l) (hn : n ≤ 3000) :
    Calls Try.prog 4 #[.slice A n c] W fun e w' => e = .returned (.bool true) ∧ Below W.heap.size W w' := by
  have HALV := Lib.hid alive_any
  have hl := hA.len
  have hni : (n : Int) ≤ 3000 := by omega
  have hle : (elmR l).1.length ≤ 3000 := by have := elm_le (l.length + 1) l 0; unfold elmR; omega
  obtain ⟨x, hx⟩ : ∃ x, (elmR l).2 = x := ⟨_, rfl⟩
  have HA := Lib.hid hA; have HLE := Lib.hid hle; have HL := Lib.hid hl
  clear hA hle hl
  by_cases h0 : x = 0
  · subst h0
    have hbk : putE (elmR l).1 = l ∧ bldE (elmR l).1 0 = 0 ∧ (elmR l).1.length ≤ l.length := elm_back (l.length + 1) l 0 (by omega) HA.out.ran hx
    have HX := Lib.hid hx; have HBK := Lib.hid hbk
    clear hx hbk
    go_enter Try.func4, Try.ntmps4
    go_wp2_with (first
      | (go_at_call 13; refine (elements_any HA.out (by omega)).mono ?_; rintro e w1 ⟨h1, hb1⟩; rw [if_pos HX.out] at h1; obtain ⟨v1, rfl, hf1⟩ := h1; obtain ⟨A1, N, c1, rfl, hN, hE1⟩ := els_n hf1; have HN := Lib.hid hN; have HE1 := Lib.hid hE1; have HB1 := Lib.hid hb1; clear hf1 hE1 hb1 hN)
      | (go_at_call 15; refine (refElements_any (HA.out.below HB1.out) (by omega)).mono ?_; rintro e w2 ⟨h2, hb2⟩; rw [if_pos HX.out] at h2; obtain ⟨v2, rfl, hf2⟩ := h2; obtain ⟨A2, N2, c2, rfl, hN2, hE2⟩ := els_n hf2; obtain rfl : N2 = N := hN2.trans HN.out.symm; have HE2 := Lib.hid hE2; have HE1 := Lib.hid (HE1.out.below hb2); have HB2 := Lib.hid (HB1.out.trans (hb2.mono HB1.out.size)); clear hf2 hE2 hb2 hN2)
      | (go_at_call 14; refine (same_yes (by have := HLE.out; have := HN.out; omega) HE1.out HE2.out).mono ?_; rintro e w3 ⟨rfl, hb3⟩; have HE1 := Lib.hid (HE1.out.below hb3); have HB3 := Lib.hid (HB2.out.trans (hb3.mono HB2.out.size)); clear hb3)
      | (go_at_call 11; refine (build_any HE1.out (by have := HLE.out; have := HN.out; omega)).mono ?_; rintro e w4 ⟨h4, hb4⟩; rw [if_pos HBK.out.2.1] at h4; obtain ⟨v4, rfl, ho4⟩ := h4; obtain ⟨A4, m4, c4, rfl, hm4, y4⟩ := ho4.bytm; have HB4 := Lib.hid (HB3.out.trans (hb4.mono HB3.out.size)); have cv4 := byt_conv y4; have cvA := byt_conv (HA.out.below HB4.out); rw [show putE (elmR l).1 = l from HBK.out.1] at cv4; obtain ⟨S, hS⟩ : ∃ S, strOfNums l = S := ⟨_, rfl⟩; rw [hS] at cv4 cvA; clear ho4 hb4 y4 hm4 hS)
      | (go_at_call 10; refine (HALV.out _).mono ?_; rintro e w9 ⟨rfl, hb9⟩))
    go_ret
    exact ⟨rfl, HB4.out.trans (hb9.mono HB4.out.size)⟩
  · have HX := Lib.hid hx
    have hx0 : (x != 0) = true := by simp [h0]
    have hx1 : (x == x) = true := by simp
    have HX0 := Lib.hid h0
    clear hx h0
    go_enter Try.func4, Try.ntmps4
    go_wp2_with (first
      | (go_at_call 13; refine (elements_any HA.out (by omega)).mono ?_; rintro e w1 ⟨h1, hb1⟩; rw [if_neg (by rw [HX.out]; exact HX0.out), HX.out] at h1; subst h1; have HB1 := Lib.hid hb1; clear hb1)
      | (go_at_call 15; refine (refElements_any (HA.out.below HB1.out) (by omega)).mono ?_; rintro e w2 ⟨h2, hb2⟩; rw [if_neg (by rw [HX.out]; exact HX0.out), HX.out] at h2; subst h2; have HB2 := Lib.hid (HB1.out.trans (hb2.mono HB1.out.size)); clear hb2)
      | (go_at_call 14; refine (same_yes (by omega) els_none els_none).mono ?_; rintro e w3 ⟨rfl, hb3⟩; have HB3 := Lib.hid (HB2.out.trans (hb3.mono HB2.out.size)); clear hb3)
      | (go_at_call 10; refine (HALV.out _).mono ?_; rintro e w9 ⟨rfl, hb9⟩))
    go_ret
    exact ⟨rfl, HB3.out.trans (hb9.mono HB3.out.size)⟩
set_option maxRecDepth 100000 in
set_option maxHeartbeats 4000000 in
theorem walkTaggedElements (A : Option Addr) (n c : Nat) (zs : List Int) (W : World) (h : IsRow .u8 W A n c zs) :
    Calls Try.prog 4 #[.slice A n c] W fun e w' => e = .returned (.bool true) ∧ Below W.heap.size W w' := by
  by_cases hn : n ≤ 3000
  · exact elmGood (byt_of_row h) hn
  · have HALV := Lib.hid alive_any
    have hni : (3000 : Int) < (n : Int) := by omega
    clear h hn
    go_enter Try.func4, Try.ntmps4
    go_wp2_with (go_at_call 10; refine (HALV.out _).mono ?_; rintro e w9 ⟨rfl, hb9⟩)
    go_ret
    exact ⟨rfl, hb9⟩
end Go.Proofs.Ytinnmnhaeejfdaa
