/- Walk of the law FrameTorn. -/
import Derived.Test.YtfamghmoanfdgaaRows
import Derived.Test.YtfamghmoanfdgaaFrL4
import Derived.Deep.Cut
namespace Go.Proofs.Ytfamghmoanfdgaa
open Go.RowKit

theorem all_tornC {A : Option Addr} {n c K : Nat} {ps : List (List Int)} {l r : List Int} {w : World} (hA : Byt w A n c l) (hn : n ≤ 100000) (hsp : l = joinE (ps.take K) ++ r) (hp : ∀ p ∈ ps, p.length ≤ 1048576) (hr : cutR r = ([], ([], 2))) :
    Calls Try.prog 22 #[.slice A n c] w fun e w' => ∃ v, e = .returned (.tuple #[v, .int .i64 ((joinE (ps.take K)).length : Nat)]) ∧ Found w' w.heap.size v (ps.take K) ∧ Below w.heap.size w w' := by
  have h := all_any hA hn
  subst hsp
  unfold AllP at h
  rw [all_torn hp hr] at h
  refine h.mono fun e w' ⟨v, k, he, hk, hf, hb⟩ => ⟨v, ?_, hf, hb⟩
  rw [he, hk, List.length_append]
  congr 3
  simp <;> omega
theorem pls_cap {H : Type} {enc : TypeId × Value → H} {w : World} {d : DataW H} {p : List MemPlace} {A : Option Addr} {len cap : Nat}
    (h : DataW.Trod enc Try.prog w 0 (fun _ => true) true 27 (.slice A len cap) d p) : len ≤ cap := by
  obtain ⟨fuel, hf⟩ := h
  rcases Go.Deep.open_slice Try.underlying27 hf with ⟨hcs, _⟩ | ⟨a, l, c, m, n, D, Pl, hcs, _, hl, hm, hmm, _, hi⟩
  · simp [Value.cells] at hcs
    obtain ⟨rfl, rfl, rfl⟩ := hcs
    exact Nat.le_refl _
  · simp [Value.cells] at hcs
    obtain ⟨rfl, rfl, rfl⟩ := hcs
    exact hl
theorem take_cells {w : World} {A : Option Addr} {n K : Nat} {ps : List (List Int)} (h : ∀ k, k < n → ∃ b off B' m d' p, A = some ⟨b, off, none⟩ ∧ w.cell? ⟨b, off + k, none⟩ = some (.slice B' m d') ∧ ps[k]? = some p ∧ Byt w B' m d' p) (hK : K ≤ n) :
    ∀ k, k < K → ∃ b off B' m d' p, A = some ⟨b, off, none⟩ ∧ w.cell? ⟨b, off + k, none⟩ = some (.slice B' m d') ∧ (ps.take K)[k]? = some p ∧ Byt w B' m d' p := fun k hk => by
  obtain ⟨b, off, B', m, d', p, h1, h2, h3, h4⟩ := h k (by omega)
  exact ⟨b, off, B', m, d', p, h1, h2, by rw [List.getElem?_take_of_lt hk]; exact h3, h4⟩
theorem tail_of {w : World} {A : Option Addr} {n c SK K : Nat} {ps : List (List Int)} {l r : List Int} (hsp : l = joinE (ps.take K) ++ r) (hsk : (joinE (ps.take K)).length = SK) (h : Byt w A n c (l.drop SK)) : Byt w A n c r := by
  rw [hsp, List.drop_left' hsk] at h
  exact h
theorem unwrap_torn {A : Option Addr} {n c : Nat} {r : List Int} {w : World} (hA : Byt w A n c r) (hn : n ≤ 1000000000) (hr : cutR r = ([], ([], 2))) :
    Calls Try.prog 20 #[.slice A n c] w fun e w' => ∃ v1 v2, e = .returned (.tuple #[v1, v2, .int .i64 2]) ∧ Below w.heap.size w w' := by
  have h := unwrap_any hA hn
  unfold UnwP at h
  rw [hr] at h
  exact h.mono fun e w' ⟨v1, v2, he, _, _, hb⟩ => ⟨v1, v2, he, hb⟩
theorem join_step {ps : List (List Int)} {k : Nat} {p : List Int} (h : ps[k]? = some p) : (joinE (ps.take (k + 1))).length = (joinE (ps.take k)).length + (frm p).length := by
  rw [List.take_add_one, h, joinE_app, List.length_append]
  simp [joinE]
theorem join_mono {ps : List (List Int)} {k K : Nat} (h : k ≤ K) : (joinE (ps.take k)).length ≤ (joinE (ps.take K)).length := by
  have e : ps.take K = ps.take k ++ (ps.take K).drop k := by
    have := List.take_append_drop k (ps.take K)
    rw [List.take_take, Nat.min_eq_left h] at this
    exact this.symm
  rw [e, joinE_app, List.length_append]; omega

set_option maxRecDepth 100000 in
set_option maxHeartbeats 16000000 in
theorem tornGood (A : Option Addr) (n c : Nat) (vs : List Value) (ps : List (List Int)) (z : Int) (W : World) (h0 : Pls W A n c vs ps) (hfew : fewB n ps = true) (hcc : n ≤ c) (hz : 0 ≤ z ∧ z ≤ 65535) :
    Calls Try.prog 8 #[.slice A n c, .int .u16 z] W fun e w' => e = .returned (.bool true) ∧ Below W.heap.size W w' := by
  have HALV := Lib.hid alive_any
  have hFew := few_any h0
  rw [hfew] at hFew
  obtain ⟨hn, hs⟩ := few_bound h0.len hfew
  have hlen := few_len hs
  have hpl := h0.len
  have hft : ∀ p ∈ ps, p.length ≤ 1048576 := fun p hp => Nat.le_trans (hs p hp) (by decide)
  have hJ := join_ok h0 (by omega) (by omega) (few_fits hs)
  obtain ⟨q, hq⟩ : ∃ q : Nat, z.toNat % ((joinE ps).length + 1) = q := ⟨_, rfl⟩
  have hql : q ≤ (joinE ps).length := by have := Nat.mod_lt z.toNat (show 0 < (joinE ps).length + 1 by omega); omega
  obtain ⟨K, r, hK, hsp, hcr, hnx, hen⟩ := torn_split ps q hql hft
  obtain ⟨SK, hSK⟩ : ∃ SK, (joinE (ps.take K)).length = SK := ⟨_, rfl⟩
  have hsq : SK + r.length = q := by
    have := congrArg List.length hsp
    rw [List.length_append, List.length_take] at this
    omega
  have hzq : ∀ m : Nat, m = (joinE ps).length → z % ((m : Int) + 1) = (q : Int) := fun m hm => by
    subst hm
    obtain ⟨zn, rfl⟩ := Int.eq_ofNat_of_zero_le hz.1
    rw [show ((zn : Nat) : Int).toNat = zn by omega] at hq
    rw [← hq]; push_cast; rfl
  have hKn : K ≤ n := by omega
  have hKi : (K : Int) ≤ (n : Int) := by omega
  have hKc : K ≤ c := by omega
  have HFew := Lib.hid hFew; have HJ := Lib.hid hJ; have HA := Lib.hid h0; have HS := Lib.hid hs; have HPL := Lib.hid hpl
  have HJL : Hid ((joinE ps).length ≤ 888) := Lib.hid (by omega)
  have HQL := Lib.hid hql; have HSP := Lib.hid hsp; have HCR := Lib.hid hcr; have HNX := Lib.hid hnx; have HEN := Lib.hid hen; have HSK := Lib.hid hSK; have HSQ := Lib.hid hsq; have HZQ := Lib.hid hzq; have HFT := Lib.hid hft
  have HTK : Hid ((ps.take K).length = K) := Lib.hid (by rw [List.length_take]; omega)
  have HKN := Lib.hid hKn
  have hni : (n : Int) ≤ 12 := by omega
  have hskq : SK ≤ q := by omega
  have hq9 : (q : Int) ≤ 888 := by omega
  clear hFew hJ h0 hs hlen hpl hn hfew hq hql hK hsp hcr hnx hen hSK hsq hzq hft hKn
  go_enter Try.func8, Try.ntmps8
  go_wp2_with (first
    | (go_at_call 14; refine HFew.out.mono ?_; rintro e w1 ⟨rfl, rfl⟩)
    | (go_at_call 18; refine HJ.out.mono ?_; rintro e w2 ⟨v2, rfl, ho2, hb2⟩; obtain ⟨A2, m2, c2, rfl, hm2, y2⟩ := ho2.bytm; have Y2 := Lib.hid y2; have HB2 := Lib.hid hb2; have M2 : Hid (m2 ≤ 888) := Lib.hid (by have := hm2.out; have := HJL.out; omega); have hzm := HZQ.out m2 hm2.out; have hqm : q ≤ m2 := (by have := hm2.out; have := HQL.out; omega); have hmc := y2.cap; have hmi : (m2 : Int) ≤ 888 := (by have := M2.out; omega); clear ho2 hb2 y2))
  clear hzm
  go_loopw [8, 9] (fun v s wr => ∃ (k : Nat), v = .int .i64 (k : Int) ∧ s = .int .i64 (((joinE (ps.take k)).length : Nat) : Int) ∧ k ≤ K ∧ Below w2.heap.size w2 wr) (fun v _ _ => n - (intOf v).toNat)
  case atStart => exact ⟨0, rfl, by simp [joinE], by omega, Below.refl _ _⟩
  case round =>
    obtain ⟨k, rfl, rfl, hkK, hb⟩ := hrel
    by_cases hlt : k < n
    · obtain ⟨b, off, B', m', d', p, rfl, hcell, hbl, hp, hBp⟩ := HA.out.at hlt
      have hlt' : (k : Int) < (n : Int) := by omega
      have hpl := HS.out p (List.mem_of_getElem? hp)
      have hBW := HB2.out.trans (hb.mono HB2.out.size)
      have hc2 := (hBW.cell (p := ⟨b, off + k, none⟩) hbl).trans hcell
      have HW := Lib.hid (wrap_ok (hBp.below hBW) (show fits p = true by simp [fits]; omega))
      have hstep := join_step hp
      obtain ⟨s, hs⟩ : ∃ s, (joinE (ps.take k)).length = s := ⟨_, rfl⟩
      obtain ⟨fl, hfl⟩ : ∃ fl, (frm p).length = fl := ⟨_, rfl⟩
      rw [hs]
      rw [hs, hfl] at hstep
      have hfl100 : fl ≤ 100 := by
        have h3 := numE_len (z := p.length) (by omega) (by omega)
        rw [← hfl]; simp only [frm, List.length_append, be4_len]; omega
      have HST := Lib.hid hstep; have HFL := Lib.hid hfl
      have hs888 : s ≤ 888 := by
        have h1 := join_mono (ps := ps) (k := k) (K := ps.length) (by have := HPL.out; omega)
        rw [List.take_length, hs] at h1
        have := HJL.out; omega
      by_cases hin : k < K
      · have hgo : ¬ ((q : Int) < (s : Int) + (fl : Int)) := by
          have h1 := join_mono (ps := ps) (show k + 1 ≤ K from hin)
          have h2 := HSK.out
          omega
        have HB := Lib.hid hb
        have HIN := Lib.hid hin
        clear hcell hBp hb hBW hpl hp hs hin hstep hfl
        go_wp2_with (go_at_call 15; refine HW.out.mono ?_; rintro e w3 ⟨v3, rfl, ho3, hb3⟩; obtain ⟨A3, m3, c3, rfl, hm3, y3⟩ := ho3.bytm; obtain rfl : m3 = fl := hm3.out.trans HFL.out; have HB3 := Lib.hid (HB.out.trans (hb3.mono HB.out.size)); clear ho3 hb3 y3)
        go_roundw
        case rel => exact ⟨k + 1, by first | rfl | (simp; omega), by rw [HST.out]; first | rfl | (push_cast; rfl), HIN.out, HB3.out⟩
        case measure => simp [intOf]; omega
      · obtain rfl : K = k := by omega
        have hgo : (q : Int) < (s : Int) + (fl : Int) := by
          have h1 := HNX.out p hp
          have h2 := HSK.out
          have h3 := HSQ.out
          omega
        obtain rfl : SK = s := by have := HSK.out; omega
        have HB := Lib.hid hb
        clear hcell hBp hb hBW hpl hp hs hin hstep hfl
        go_upto_region 15 with (go_at_call 15; refine HW.out.mono ?_; rintro e w3 ⟨v3, rfl, ho3, hb3⟩; obtain ⟨A3, m3, c3, rfl, hm3, y3⟩ := ho3.bytm; obtain rfl : m3 = fl := hm3.out.trans HFL.out; have HB3 := Lib.hid (HB.out.trans (hb3.mono HB.out.size)); clear ho3 hb3 y3)
        have hb := HB3.out
        have hal := all_tornC (byt_take (Y2.out.below hb) q (by omega)) (by have := M2.out; omega) HSP.out HFT.out HCR.out
        rw [HSK.out] at hal
        have HAL := Lib.hid hal; clear hal
        have HC2 := Lib.hid (HB2.out.trans (hb.mono HB2.out.size))
        have HYB := Lib.hid (Y2.out.below hb)
        clear hb
        by_cases hend : (joinE (ps.take K)).length = q
        · have hend' : q = SK := by have := HSK.out; omega
          subst hend'
          go_wp2_with (first
            | (go_at_call 22; refine HAL.out.mono ?_; rintro e w7 ⟨v7, rfl, hf7, hb7⟩; obtain ⟨E1, e1, rfl, g1⟩ := found_at' HTK.out hf7; have HB7 := Lib.hid (HC2.out.trans (hb7.mono HC2.out.size)); have HB78 := Lib.hid hb7; have HQ := Lib.hid (sameAll_yes (c := e1) (d := c) (by omega) g1 (take_cells (HA.out.below HB7.out).cells (by omega))); clear hf7 hb7 g1)
            | (go_at_call 24; refine HQ.out.mono ?_; rintro e w9 ⟨rfl, hb9⟩)
            | (go_at_call 13; refine (HALV.out _).mono ?_; rintro e w10 ⟨rfl, hb10⟩))
          go_ret
          exact ⟨rfl, HB7.out.trans ((hb9.trans (hb10.mono hb9.size)).mono HB7.out.size)⟩
        · have hlt9 : SK < q := by have h1 := HSK.out; have h2 := HSQ.out; omega
          have hne : ((SK : Int) == (q : Int)) = false := by simp; omega
          have hle9 : (SK : Int) ≤ (q : Int) := by omega
          obtain ⟨b9, o9, x9, rfl, -⟩ := HYB.out.at (k := 0) (by omega)
          have hcap := HYB.out.cap
          have hnc : ¬ c2 = SK := by omega
          have HR := Lib.hid (tail_of HSP.out HSK.out (byt_drop (byt_take HYB.out q (by omega)) SK (by omega)))
          clear hend
          go_wp2_with (first
            | (go_at_call 22; refine HAL.out.mono ?_; rintro e w7 ⟨v7, rfl, hf7, hb7⟩; obtain ⟨E1, e1, rfl, g1⟩ := found_at' HTK.out hf7; have HB7 := Lib.hid (HC2.out.trans (hb7.mono HC2.out.size)); have HB78 := Lib.hid hb7; have HQ := Lib.hid (sameAll_yes (c := e1) (d := c) (by omega) g1 (take_cells (HA.out.below HB7.out).cells (by omega))); clear hf7 hb7 g1)
            | (go_at_call 24; refine HQ.out.mono ?_; rintro e w9 ⟨rfl, hb9⟩)
            | (go_at_call 20; refine (unwrap_torn (HR.out.below (HB78.out.trans (hb9.mono HB78.out.size))) (by omega) HCR.out).mono ?_; rintro e w11 ⟨v11, v12, rfl, hb11⟩)
            | (go_at_call 13; refine (HALV.out _).mono ?_; rintro e w10 ⟨rfl, hb10⟩))
          go_ret
          exact ⟨rfl, HB7.out.trans ((hb9.trans ((hb11.trans (hb10.mono hb11.size)).mono hb9.size)).mono HB7.out.size)⟩
    · obtain rfl : k = n := by omega
      obtain rfl : K = k := by have := HKN.out; omega
      rw [HSK.out]
      have hal := all_tornC (byt_take (Y2.out.below hb) q (by omega)) (by have := M2.out; omega) HSP.out HFT.out HCR.out
      rw [HSK.out] at hal
      have HAL := Lib.hid hal; clear hal
      have HC2 := Lib.hid (HB2.out.trans (hb.mono HB2.out.size))
      have HYB := Lib.hid (Y2.out.below hb)
      clear hb
      by_cases hend : (joinE (ps.take K)).length = q
      · have hend' : q = SK := by have := HSK.out; omega
        subst hend'
        go_wp2_with (first
          | (go_at_call 22; refine HAL.out.mono ?_; rintro e w7 ⟨v7, rfl, hf7, hb7⟩; obtain ⟨E1, e1, rfl, g1⟩ := found_at' HTK.out hf7; have HB7 := Lib.hid (HC2.out.trans (hb7.mono HC2.out.size)); have HB78 := Lib.hid hb7; have HQ := Lib.hid (sameAll_yes (c := e1) (d := c) (by omega) g1 (take_cells (HA.out.below HB7.out).cells (by omega))); clear hf7 hb7 g1)
          | (go_at_call 24; refine HQ.out.mono ?_; rintro e w9 ⟨rfl, hb9⟩)
          | (go_at_call 13; refine (HALV.out _).mono ?_; rintro e w10 ⟨rfl, hb10⟩))
        go_ret
        exact ⟨rfl, HB7.out.trans ((hb9.trans (hb10.mono hb9.size)).mono HB7.out.size)⟩
      · have hlt9 : SK < q := by have h1 := HSK.out; have h2 := HSQ.out; omega
        have hne : ((SK : Int) == (q : Int)) = false := by simp; omega
        have hle9 : (SK : Int) ≤ (q : Int) := by omega
        obtain ⟨b9, o9, x9, rfl, -⟩ := HYB.out.at (k := 0) (by omega)
        have hcap := HYB.out.cap
        have hnc : ¬ c2 = SK := by omega
        have HR := Lib.hid (tail_of HSP.out HSK.out (byt_drop (byt_take HYB.out q (by omega)) SK (by omega)))
        clear hend
        go_wp2_with (first
          | (go_at_call 22; refine HAL.out.mono ?_; rintro e w7 ⟨v7, rfl, hf7, hb7⟩; obtain ⟨E1, e1, rfl, g1⟩ := found_at' HTK.out hf7; have HB7 := Lib.hid (HC2.out.trans (hb7.mono HC2.out.size)); have HB78 := Lib.hid hb7; have HQ := Lib.hid (sameAll_yes (c := e1) (d := c) (by omega) g1 (take_cells (HA.out.below HB7.out).cells (by omega))); clear hf7 hb7 g1)
          | (go_at_call 24; refine HQ.out.mono ?_; rintro e w9 ⟨rfl, hb9⟩)
          | (go_at_call 20; refine (unwrap_torn (HR.out.below (HB78.out.trans (hb9.mono HB78.out.size))) (by omega) HCR.out).mono ?_; rintro e w11 ⟨v11, v12, rfl, hb11⟩)
          | (go_at_call 13; refine (HALV.out _).mono ?_; rintro e w10 ⟨rfl, hb10⟩))
        go_ret
        exact ⟨rfl, HB7.out.trans ((hb9.trans ((hb11.trans (hb10.mono hb11.size)).mono hb9.size)).mono HB7.out.size)⟩

set_option maxRecDepth 100000 in
set_option maxHeartbeats 4000000 in
theorem walkFrameTorn (A : Option Addr) (n c : Nat) (vs : List Value) (ps : List (List Int)) (z : Int) (W : World) (h0 : Pls W A n c vs ps) (hcc : n ≤ c) (hz : (Lit.int .u16 z).wf = true) :
    Calls Try.prog 8 #[.slice A n c, .int .u16 z] W fun e w' => e = .returned (.bool true) ∧ Below W.heap.size W w' := by
  by_cases hfew : fewB n ps = true
  · exact tornGood A n c vs ps z W h0 hfew hcc (by simpa [Lit.wf, IntKind.min, IntKind.max, IntKind.signed, IntKind.bits] using hz)
  · rw [Bool.not_eq_true] at hfew
    have HALV := Lib.hid alive_any
    have hFew := few_any h0
    rw [hfew] at hFew
    have HFew := Lib.hid hFew
    clear hFew h0 hfew hcc hz
    go_enter Try.func8, Try.ntmps8
    go_wp2_with (first
      | (go_at_call 14; refine HFew.out.mono ?_; rintro e w1 ⟨rfl, rfl⟩)
      | (go_at_call 13; refine (HALV.out _).mono ?_; rintro e w7 ⟨rfl, hb7⟩))
    go_ret
    exact ⟨rfl, hb7⟩
end Go.Proofs.Ytfamghmoanfdgaa
