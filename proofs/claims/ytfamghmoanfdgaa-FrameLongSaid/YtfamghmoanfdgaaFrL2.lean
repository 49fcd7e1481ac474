/- Walks of the laws FrameWraps, FrameUnwraps, FrameAlls. -/
import Derived.Test.YtfamghmoanfdgaaRows
import Derived.Test.YtfamghmoanfdgaaFrRA
import Derived.Test.YtfamghmoanfdgaaFrArg
namespace Go.Proofs.Ytfamghmoanfdgaa
open Go.RowKit

theorem join_ok {A : Option Addr} {n c : Nat} {vs : List Value} {ps : List (List Int)} {w : World} (hA : Pls w A n c vs ps) (hn : n ≤ 100000) (hj : (joinE ps).length ≤ 100000000) (hf : ps.all fits = true) :
    Calls Try.prog 18 #[.slice A n c] w fun e w' => ∃ v, e = .returned (.tuple #[v, .int .i64 0]) ∧ Own w' w.heap.size v (joinE ps) ∧ Below w.heap.size w w' :=
  (join_all hA hn hj).mono fun e w' ⟨h1, hb⟩ => by
    rw [if_pos hf] at h1
    obtain ⟨v, he, ho⟩ := h1
    exact ⟨v, he, ho, hb⟩
theorem found_at' {w : World} {base : Nat} {v : Value} {ps : List (List Int)} {N : Nat} (hN : ps.length = N) (h : Found w base v ps) : ∃ A c, v = .slice A N c ∧ ∀ k, k < N → ∃ b off B' m d' p, A = some ⟨b, off, none⟩ ∧ w.cell? ⟨b, off + k, none⟩ = some (.slice B' m d') ∧ ps[k]? = some p ∧ Byt w B' m d' p := by
  subst hN
  exact found_at h
theorem allF_few : ∀ (k : Nat) (b : List Int), (allF k b).1.length ≤ k
  | 0, b => by simp [allF]
  | k + 1, b => by
    rw [allF]
    split
    · have := allF_few k (cutR b).2.1
      simp only [List.length_cons]; omega
    · simp
theorem allR_few (b : List Int) : (allR b).1.length ≤ b.length + 1 := allF_few _ b

set_option maxRecDepth 100000 in
set_option maxHeartbeats 4000000 in
theorem walkFrameUnwraps (A : Option Addr) (n c : Nat) (zs : List Int) (W : World) (h0 : IsRow .u8 W A n c zs) :
    Calls Try.prog 5 #[.slice A n c] W fun e w' => e = .returned (.bool true) ∧ Below W.heap.size W w' := by
  have hA := byt_of_row h0
  clear h0
  have HALV := Lib.hid alive_any
  by_cases hn : (600 : Int) < (n : Int)
  · clear hA
    go_enter Try.func5, Try.ntmps5
    go_wp2_with (go_at_call 13; refine (HALV.out _).mono ?_; rintro e w1 ⟨rfl, hb1⟩)
    go_ret
    exact ⟨rfl, hb1⟩
  · have hU := unwrap_any hA (by omega)
    have hV := fun (w1 : World) (hb : Below W.heap.size W w1) => refUnwrap_any (hA.below hb) (by omega)
    unfold UnwP at hU hV
    obtain ⟨⟨P, R, er⟩, hS⟩ : ∃ S, cutR (zs.take n) = S := ⟨_, rfl⟩
    rw [hS] at hU hV
    have HU := Lib.hid hU; have HV := Lib.hid hV
    clear hU hV hS hA
    go_enter Try.func5, Try.ntmps5
    go_wp2_with (first
      | (go_at_call 20; refine HU.out.mono ?_; rintro e w1 ⟨v1, v2, rfl, ho1, ho2, hb1⟩; have HB1 := Lib.hid hb1; have HO1 := Lib.hid ho1; have HO2 := Lib.hid ho2; clear hb1 ho1 ho2)
      | (go_at_call 21; refine (HV.out _ HB1.out).mono ?_; rintro e w2 ⟨u1, u2, rfl, hp1, hp2, hb2⟩; obtain ⟨A1, m1, c1, rfl, hm1, y1⟩ := (HO1.out.below hb2).bytm; obtain ⟨A2, m2, c2, rfl, hm2, y2⟩ := (HO2.out.below hb2).bytm; obtain ⟨A3, m3, c3, rfl, hm3, y3⟩ := hp1.bytm; obtain ⟨A4, m4, c4, rfl, hm4, y4⟩ := hp2.bytm; have HB2 := Lib.hid (HB1.out.trans (hb2.mono HB1.out.size)); clear hb2 hp1 hp2)
      | (go_at_call 17; refine (same_yes (by assumption) (by assumption) (by rfl)).mono ?_; rintro e w6 ⟨rfl, rfl⟩)
      | (go_at_call 13; refine (HALV.out _).mono ?_; rintro e w7 ⟨rfl, hb7⟩))
    go_ret
    exact ⟨rfl, HB2.out.trans (hb7.mono HB2.out.size)⟩

set_option maxRecDepth 100000 in
set_option maxHeartbeats 4000000 in
theorem walkFrameAlls (A : Option Addr) (n c : Nat) (zs : List Int) (W : World) (h0 : IsRow .u8 W A n c zs) :
    Calls Try.prog 6 #[.slice A n c] W fun e w' => e = .returned (.bool true) ∧ Below W.heap.size W w' := by
  have hA := byt_of_row h0
  clear h0
  have HALV := Lib.hid alive_any
  by_cases hn : (600 : Int) < (n : Int)
  · clear hA
    go_enter Try.func6, Try.ntmps6
    go_wp2_with (go_at_call 13; refine (HALV.out _).mono ?_; rintro e w1 ⟨rfl, hb1⟩)
    go_ret
    exact ⟨rfl, hb1⟩
  · have hU := all_any hA (by omega)
    have hV := fun (w1 : World) (hb : Below W.heap.size W w1) => refAll_any (hA.below hb) (by omega)
    have hl := hA.len
    have hfe := allR_few (zs.take n)
    unfold AllP at hU hV
    obtain ⟨⟨ps, r⟩, hS⟩ : ∃ S, allR (zs.take n) = S := ⟨_, rfl⟩
    rw [hS] at hU hV hfe
    simp only at hfe
    obtain ⟨N, hN⟩ : ∃ N, ps.length = N := ⟨_, rfl⟩
    have HNN := Lib.hid hN
    have HN : Hid (N ≤ 100000) := Lib.hid (by omega)
    have HU := Lib.hid hU; have HV := Lib.hid hV
    obtain ⟨K, hK⟩ : ∃ K : Int, ((zs.take n).length : Int) - (r.length : Int) = K := ⟨_, rfl⟩
    rw [hK] at HU HV
    clear hU hV hS hA hN hfe hl
    go_enter Try.func6, Try.ntmps6
    go_wp2_with (first
      | (go_at_call 22; refine HU.out.mono ?_; rintro e w1 ⟨v1, k1, rfl, rfl, hf1, hb1⟩; have HB1 := Lib.hid hb1; have HF1 := Lib.hid hf1; clear hb1 hf1)
      | (go_at_call 23; refine (HV.out _ HB1.out).mono ?_; rintro e w2 ⟨v2, k2, rfl, rfl, hf2, hb2⟩; obtain ⟨A1, c1, rfl, g1⟩ := found_at' HNN.out (HF1.out.below hb2); obtain ⟨A2, c2, rfl, g2⟩ := found_at' HNN.out hf2; have HQ := Lib.hid (sameAll_yes (c := c1) (d := c2) HN.out g1 g2); have HB2 := Lib.hid (HB1.out.trans (hb2.mono HB1.out.size)); clear hb2 hf2 g1 g2)
      | (go_at_call 24; refine HQ.out.mono ?_; rintro e w6 ⟨rfl, hb6⟩)
      | (go_at_call 13; refine (HALV.out _).mono ?_; rintro e w7 ⟨rfl, hb7⟩))
    go_ret
    exact ⟨rfl, HB2.out.trans ((hb6.trans (hb7.mono hb6.size)).mono HB2.out.size)⟩
end Go.Proofs.Ytfamghmoanfdgaa
