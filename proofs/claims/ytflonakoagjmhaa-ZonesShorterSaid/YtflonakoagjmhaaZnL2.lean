/- Walks of the laws on Equal and Minimal. -/
import Derived.Test.YtflonakoagjmhaaZnLk
namespace Go.Proofs.Ytflonakoagjmhaa.Zn
open Go.RowKit Go.Lib Go.Shelf Go.Proofs.Ytflonakoagjmhaa Go.Maps

/-- Equal lists give any text the same zone. -/
theorem fnd_eqZ {a b : List Zo} (h : eqZ a b = true) (s : Wd) : fnd a s = fnd b s := by
  have h0 := h
  unfold eqZ at h0
  simp only [Bool.and_eq_true, decide_eq_true_eq] at h0
  have ha := ck_vld.1 h0.1.1.1
  have hb := ck_vld.1 h0.1.1.2
  cases hn : numB s with
  | false =>
    unfold fnd
    rw [if_neg (by rw [hn]; simp), if_neg (by rw [hn]; simp)]
  | true => rw [fnd_eq ha hn, fnd_eq hb hn]; exact (eqZ_lk ha hb).1 h s
theorem same_ok (A B : Option Addr) (n c m d : Nat) (l q : List Zm) (w : World) (hA : ZsR w A l) (hn : l.length = n) (hn6 : n ≤ 64) (hf : Fit l) (hB : ZsR w B q) (hm : q.length = m) (hm6 : m ≤ 64) (hg : Fit q) (he : l = q) :
    Calls Try.prog 20 #[.slice A n c, .slice B m d] w fun e w' => e = .returned (.bool true) ∧ Below w.heap.size w w' :=
  same_any A B n c m d l q w hA hn (by omega) hf hB hm (by omega) hg true (by simp [he])
end Go.Proofs.Ytflonakoagjmhaa.Zn
namespace Go.Proofs.Ytflonakoagjmhaa
open Go.RowKit Go.Lib Zn
set_option maxRecDepth 100000 in
set_option maxHeartbeats 8000000 in
theorem walkZonesMinimals (A : Option Addr) (n c : Nat) (l : List Zm) (w : World) (hA : ZsR w A l) (hn : l.length = n) (hc : n ≤ c) (hm : c ≤ maxLen) (hg : Big l) :
    Calls Try.prog 6 #[.slice A n c] w fun e w' => e = .returned (.bool true) ∧ Below w.heap.size w w' := by
  obtain ⟨v, hv⟩ := few_dec l
  have HF := Lib.hid (few_any A n c l w hA hn hc hm hg v hv)
  cases v
  · clear hA hn hc hm hg hv
    go_enter Try.func6, Try.ntmps6
    go_wp2_with (first
      | (go_at_call 9; (with_reducible refine HF.out.mono ?_); rintro e w1 ⟨rfl, rfl⟩)
      | (go_at_call 10; (with_reducible refine (awake_any _).mono ?_); rintro e w1 ⟨rfl, hb1⟩))
    go_ret
    exact ⟨rfl, hb1⟩
  · have hfit := (hv.1 rfl).fit
    have HN := Lib.hid ((minimal_any A n c l w hA hn hc hm hfit).mono fun e w' h => mn_out h)
    have HM := Lib.hid (fun (W : World) (h : Below w.heap.size w W) => (refMinimal_any A n c l W (hA.below h) hn hc hm hfit).mono fun e w' h => mn_out h)
    clear hA hn hc hm hg hv hfit
    go_enter Try.func6, Try.ntmps6
    go_wp2_with (first
      | (go_at_call 9; (with_reducible refine HF.out.mono ?_); rintro e w1 ⟨rfl, rfl⟩)
      | (go_at_call 21; (with_reducible refine HN.out.mono ?_); rintro e w3 ⟨A3, N3, c3, L3, rfl, x1, x2, -, -, x3, x4, x5, x6⟩; have HX := Lib.hid (And.intro x1 (And.intro x2 (And.intro x3 (And.intro x4 x5)))); have HB3 := Lib.hid x6; clear x1 x2 x3 x4 x5 x6)
      | (go_at_call 22; (with_reducible refine (HM.out _ HB3.out).mono ?_); rintro e w4 ⟨A4, N4, c4, L4, rfl, y1, y2, -, -, y3, y4, y5, y6⟩; have HT := Lib.hid (same_ok A3 A4 N3 c3 N4 c4 L3 L4 w4 (HX.out.2.2.1.below y6) HX.out.1 HX.out.2.1 HX.out.2.2.2.1 y3 y1 y2 y4 (HX.out.2.2.2.2.eq y5)); have HB4 := Lib.hid (HB3.out.trans (y6.mono HB3.out.size)); clear y1 y2 y3 y4 y5 y6)
      | (go_at_call 20; (with_reducible refine HT.out.mono ?_); rintro e w5 ⟨rfl, hb5⟩; have HB5 := Lib.hid (HB4.out.trans (hb5.mono HB4.out.size)); clear hb5)
      | (go_at_call 10; (with_reducible refine (awake_any _).mono ?_); rintro e w6 ⟨rfl, hb6⟩))
    go_ret
    exact ⟨rfl, HB5.out.trans (hb6.mono HB5.out.size)⟩
set_option maxRecDepth 100000 in
set_option maxHeartbeats 8000000 in
theorem walkZonesEqual (A : Option Addr) (n c : Nat) (l : List Zm) (B : Option Addr) (m d : Nat) (q : List Zm) (s : ByteArray) (w : World) (hA : ZsR w A l) (hn : l.length = n) (hc : n ≤ c) (hm : c ≤ maxLen) (hg : Big l) (hB : ZsR w B q) (hm1 : q.length = m) (hd : m ≤ d) (hdm : d ≤ maxLen) (hgq : Big q) (hs : s.size ≤ maxLen) :
    Calls Try.prog 5 #[.slice A n c, .slice B m d, .string s] w fun e w' => e = .returned (.bool true) ∧ Below w.heap.size w w' := by
  obtain ⟨v, hv⟩ := few_dec l
  obtain ⟨u, hu⟩ := few_dec q
  have HF := Lib.hid (few_any A n c l w hA hn hc hm hg v hv)
  have HG := Lib.hid (few_any B m d q w hB hm1 hd hdm hgq u hu)
  have hs9 := hs
  unfold maxLen at hs9
  by_cases hgo : v = true ∧ u = true ∧ s.size ≤ 1000
  · obtain ⟨rfl, rfl, h1000⟩ := hgo
    have d1 : decide ((1000 : Int) < (s.size : Int)) = false := decide_eq_false (by omega)
    have hf1 := (hv.1 rfl).fit
    have hf2 := (hu.1 rfl).fit
    obtain ⟨V, hV⟩ := ba_of (fnd (zos l) s.data.toList)
    obtain ⟨b, hb⟩ : ∃ b, (!V.data.toList.isEmpty) = b := ⟨_, rfl⟩
    obtain ⟨U, hU⟩ := ba_of (fnd (zos q) s.data.toList)
    obtain ⟨z, hz⟩ : ∃ b, (!U.data.toList.isEmpty) = b := ⟨_, rfl⟩
    have HE := Lib.hid (fun (W : World) (h : Below w.heap.size w W) => equal_any A B n c m d l q W (hA.below h) hn hc hm hf1 (hB.below h) hm1 hd hdm hf2)
    have HR := Lib.hid (fun (W : World) (h : Below w.heap.size w W) => refEqual_any A B n c m d l q W (hA.below h) hn hc hm hf1 (hB.below h) hm1 hd hdm hf2)
    have HX := Lib.hid (fun (W : World) (h : Below w.heap.size w W) => find_is A n c l s V b W (hA.below h) hn hc hm hf1 hs hV hb)
    have HY := Lib.hid (fun (W : World) (h : Below w.heap.size w W) => find_is B m d q s U z W (hB.below h) hm1 hd hdm hf2 hs hU hz)
    have HVU : Hid (eqZ (zos l) (zos q) = true → V = U ∧ b = z) := Lib.hid fun h => by
      have h1 := fnd_eqZ h s.data.toList
      rw [hV, hU] at h1
      have h2 := ba_ext h1
      subst h2
      exact ⟨rfl, by rw [← hb, ← hz]⟩
    obtain ⟨ev, hev⟩ : ∃ ev, eqZ (zos l) (zos q) = ev := ⟨_, rfl⟩
    rw [hev] at HE HR HVU
    have HB0 := Lib.hid (Below.refl w.heap.size w)
    clear hA hn hc hm hg hv hB hm1 hd hdm hgq hu hs hV hU hb hz hf1 hf2 hev h1000
    cases ev
    · go_enter Try.func5, Try.ntmps5
      go_wp2_with (first
        | (go_at_call 9; (first | with_reducible refine HF.out.mono ?_ | with_reducible refine HG.out.mono ?_); rintro e w1 ⟨rfl, rfl⟩)
        | (go_at_call 18; (with_reducible refine (HE.out _ HB0.out).mono ?_); rintro e w1 ⟨rfl, hb1⟩; have HB1 := Lib.hid hb1; clear hb1 HB0)
        | (go_at_call 19; (with_reducible refine (HR.out _ HB1.out).mono ?_); rintro e w2 ⟨rfl, hb2⟩; have HB2 := Lib.hid (HB1.out.trans (hb2.mono HB1.out.size)); clear hb2)
        | (go_at_call 16; (with_reducible refine (HX.out _ HB2.out).mono ?_); rintro e w3 ⟨rfl, hb3⟩; have HB3 := Lib.hid (HB2.out.trans (hb3.mono HB2.out.size)); clear hb3 HB2)
        | (go_at_call 16; (with_reducible refine (HY.out _ HB3.out).mono ?_); rintro e w4 ⟨rfl, hb4⟩; have HB4 := Lib.hid (HB3.out.trans (hb4.mono HB3.out.size)); clear hb4)
        | (go_at_call 18; (with_reducible refine (HE.out _ HB4.out).mono ?_); rintro e w5 ⟨rfl, hb5⟩; have HB5 := Lib.hid (HB4.out.trans (hb5.mono HB4.out.size)); clear hb5)
        | (go_at_call 10; (with_reducible refine (awake_any _).mono ?_); rintro e w6 ⟨rfl, hb6⟩))
      go_ret
      exact ⟨rfl, HB5.out.trans (hb6.mono HB5.out.size)⟩
    · obtain ⟨rfl, rfl⟩ := HVU.out rfl
      go_enter Try.func5, Try.ntmps5
      go_wp2_with (first
        | (go_at_call 9; (first | with_reducible refine HF.out.mono ?_ | with_reducible refine HG.out.mono ?_); rintro e w1 ⟨rfl, rfl⟩)
        | (go_at_call 18; (with_reducible refine (HE.out _ HB0.out).mono ?_); rintro e w1 ⟨rfl, hb1⟩; have HB1 := Lib.hid hb1; clear hb1 HB0)
        | (go_at_call 19; (with_reducible refine (HR.out _ HB1.out).mono ?_); rintro e w2 ⟨rfl, hb2⟩; have HB2 := Lib.hid (HB1.out.trans (hb2.mono HB1.out.size)); clear hb2)
        | (go_at_call 16; (with_reducible refine (HX.out _ HB2.out).mono ?_); rintro e w3 ⟨rfl, hb3⟩; have HB3 := Lib.hid (HB2.out.trans (hb3.mono HB2.out.size)); clear hb3 HB2)
        | (go_at_call 16; (with_reducible refine (HY.out _ HB3.out).mono ?_); rintro e w4 ⟨rfl, hb4⟩; have HB4 := Lib.hid (HB3.out.trans (hb4.mono HB3.out.size)); clear hb4)
        | (go_at_call 18; (with_reducible refine (HE.out _ HB4.out).mono ?_); rintro e w5 ⟨rfl, hb5⟩; have HB5 := Lib.hid (HB4.out.trans (hb5.mono HB4.out.size)); clear hb5)
        | (go_at_call 10; (with_reducible refine (awake_any _).mono ?_); rintro e w6 ⟨rfl, hb6⟩))
      go_ret
      exact ⟨rfl, HB5.out.trans (hb6.mono HB5.out.size)⟩
  · have hcs : v = false ∨ (v = true ∧ u = false) ∨ (v = true ∧ u = true ∧ decide ((1000 : Int) < (s.size : Int)) = true) := by
      cases v with
      | false => exact .inl rfl
      | true =>
        cases u with
        | false => exact .inr (.inl ⟨rfl, rfl⟩)
        | true => exact .inr (.inr ⟨rfl, rfl, decide_eq_true (by
            rcases Nat.lt_or_ge 1000 s.size with h | h
            · omega
            · exact absurd ⟨rfl, rfl, h⟩ hgo)⟩)
    clear hA hn hc hm hg hv hB hm1 hd hdm hgq hu hs hgo
    rcases hcs with rfl | ⟨rfl, rfl⟩ | ⟨rfl, rfl, d1⟩
    all_goals
      go_enter Try.func5, Try.ntmps5
      go_wp2_with (first
        | (go_at_call 9; (first | with_reducible refine HF.out.mono ?_ | with_reducible refine HG.out.mono ?_); rintro e w1 ⟨rfl, rfl⟩)
        | (go_at_call 10; (with_reducible refine (awake_any _).mono ?_); rintro e w6 ⟨rfl, hb6⟩))
      go_ret
      exact ⟨rfl, hb6⟩
end Go.Proofs.Ytflonakoagjmhaa
