/- Walk of the law on Fees. -/
import Derived.Test.YthjckkcafhiomaaPdL2
namespace Go.Proofs.Ythjckkcafhiomaa
open Go.RowKit Pd

namespace Pd
theorem fees_is (A : Option Addr) (n c : Nat) (l : List Pr) (nm : ByteArray) (a b : Int) (Fs : List Fd) (hF : feesP l nm a b = Fs) (N : Nat) (hN : Fs.length = N) (w : World) (hA : PrR w A l) (hn : l.length = n) (h6 : n ≤ 1000000) :
    Calls Try.prog 20 #[.slice A n c, .string nm, .agg #[.int .i64 a, .int .i64 b]] w fun e w' => ∃ B c', e = .returned (.slice B N c') ∧ N ≤ c' ∧ c' ≤ maxLen ∧ FdR w' B Fs ∧ Below w.heap.size w w' := by
  subst hF hN
  refine (fees_any A n c l nm a b w hA hn h6).mono fun e w' ⟨v', he, ho, hb⟩ => ?_
  obtain ⟨B, c', rfl, h1, h2, h3, _⟩ := fd_own ho rfl
  exact ⟨B, c', he, h1, h2, h3, hb⟩
theorem refFees_is (A : Option Addr) (n c : Nat) (l : List Pr) (nm : ByteArray) (a b : Int) (Fs : List Fd) (hF : feesR l nm a b = Fs) (N : Nat) (hN : Fs.length = N) (w : World) (hA : PrR w A l) (hn : l.length = n) (h6 : n ≤ 1000000) :
    Calls Try.prog 21 #[.slice A n c, .string nm, .agg #[.int .i64 a, .int .i64 b]] w fun e w' => ∃ B c', e = .returned (.slice B N c') ∧ N ≤ c' ∧ c' ≤ maxLen ∧ FdR w' B Fs ∧ Below w.heap.size w w' := by
  subst hF hN
  refine (refFees_any A n c l nm a b w hA hn h6).mono fun e w' ⟨v', he, ho, hb⟩ => ?_
  obtain ⟨B, c', rfl, h1, h2, h3, _⟩ := fd_own ho rfl
  exact ⟨B, c', he, h1, h2, h3, hb⟩
theorem feesP_len (l : List Pr) (nm : ByteArray) (a b : Int) : (feesP l nm a b).length ≤ l.length := by
  unfold feesP
  split
  · exact Nat.le_trans (feesK_len _ _ _ _) (List.length_filter_le _ _)
  · exact Nat.zero_le _
end Pd
set_option maxRecDepth 100000 in
set_option maxHeartbeats 16000000 in
theorem walkProductFees (A : Option Addr) (n c : Nat) (l : List Pr) (nm : ByteArray) (a b : Int) (w : World) (hA : PrR w A l) (hn : l.length = n) (hc : n ≤ c) (hm : c ≤ maxLen) :
    Calls Try.prog 5 #[.slice A n c, .string nm, .agg #[.int .i64 a, .int .i64 b]] w fun e w' => e = .returned (.bool true) ∧ Below w.heap.size w w' := by
  obtain ⟨g, hg⟩ : ∃ g, w.heap.size = g := ⟨_, rfl⟩
  obtain ⟨L, hL⟩ : ∃ L, w.alloc (.cells #[.int .i64 a, .int .i64 b] 38) = L := ⟨_, rfl⟩
  have hbL : Below w.heap.size w L := hL ▸ below_one w _
  have hQ : Blk L g 38 #[.int .i64 a, .int .i64 b] := hL ▸ hg ▸ Blk.new w _ _
  obtain ⟨v, hv⟩ : ∃ v, fewB l = v := ⟨_, rfl⟩
  have HF := Lib.hid (few_is A n c l v hv L (hA.below hbL) hn hc hm)
  have HV := Lib.hid hv; have HA := Lib.hid (hA.below hbL); have HN := Lib.hid hn; have HBL := Lib.hid hbL; have HQ := Lib.hid hQ
  clear hA hn hc hm hv hbL hQ
  cases v
  · go_enter Try.func5, Try.ntmps5
    go_wp2_with (first
      | (go_at_call 8; (with_reducible refine HF.out.mono ?_); rintro e w1 ⟨rfl, rfl⟩)
      | (go_at_call 9; (with_reducible refine (awake_any _).mono ?_); rintro e w1 ⟨rfl, hb1⟩))
    go_ret
    exact ⟨rfl, HBL.out.trans (hb1.mono HBL.out.size)⟩
  · have hle : n ≤ 1000000 := by have := few_len HV.out; have := HN.out; omega
    obtain ⟨u, hu⟩ : ∃ u, asc l = u := ⟨_, rfl⟩
    have HAS := Lib.hid (fun (W : World) (h : PrR W A l) => asc_is A n c l u hu W h HN.out hle)
    have HU := Lib.hid hu
    clear hu
    cases u
    · go_enter Try.func5, Try.ntmps5
      go_wp2_with (first
        | (go_at_call 8; (with_reducible refine HF.out.mono ?_); rintro e w1 ⟨rfl, rfl⟩)
        | (go_at_call 12; (with_reducible refine (HAS.out _ HA.out).mono ?_); rintro e w1 ⟨rfl, hb1⟩; have HB1 := Lib.hid (HBL.out.trans (hb1.mono HBL.out.size)); clear hb1)
        | (go_at_call 9; (with_reducible refine (awake_any _).mono ?_); rintro e w2 ⟨rfl, hb2⟩; have HB2 := Lib.hid (HB1.out.trans (hb2.mono HB1.out.size)); clear hb2))
      go_ret
      exact ⟨rfl, HB2.out⟩
    · obtain ⟨Fs, hFs⟩ : ∃ Fs, feesP l nm a b = Fs := ⟨_, rfl⟩
      obtain ⟨N, hN⟩ : ∃ N, Fs.length = N := ⟨_, rfl⟩
      have HFE := Lib.hid (fun (W : World) (h : PrR W A l) => fees_is A n c l nm a b Fs hFs N hN W h HN.out hle)
      have HFR := Lib.hid (fun (W : World) (h : PrR W A l) => refFees_is A n c l nm a b Fs ((fees_same HU.out nm a b).trans hFs) N hN W h HN.out hle)
      have hNl : N ≤ maxLen := by have := feesP_len l nm a b; rw [hFs, hN, HN.out] at this; unfold maxLen; omega
      have HLN := Lib.hid (show Fs.length = N ∧ N ≤ maxLen from ⟨hN, hNl⟩)
      clear hFs hN hNl
      go_enter Try.func5, Try.ntmps5
      go_wp2_with (first
        | (go_at_call 8; (with_reducible refine HF.out.mono ?_); rintro e w1 ⟨rfl, rfl⟩)
        | (go_at_call 12; (with_reducible refine (HAS.out _ HA.out).mono ?_); rintro e w1 ⟨rfl, hb1⟩; have HA1 := Lib.hid (HA.out.below hb1); have HQ1 := Lib.hid (HQ.out.below hb1 HQ.out.lt); have HB1 := Lib.hid (HBL.out.trans (hb1.mono HBL.out.size)); clear hb1; obtain ⟨c0, c1⟩ := HQ1.out.two))
      clear hL hg
      go_region_held3 (fun w' => w'.cell? ⟨g, 0, none⟩ = some (.int .i64 a) ∧ w'.cell? ⟨g, 1, none⟩ = some (.int .i64 b)) (go_keep)
        (first
          | (go_at_call 20; (with_reducible refine (HFE.out _ (HA1.out.below (drew_self _))).mono ?_); rintro e w2 ⟨B2, m2, rfl, -, -, hf2, hb2⟩; have hb2' : Below w1.heap.size w1 w2 := ⟨hb2.os, hb2.tape, hb2.output, hb2.size, hb2.block⟩; have HA2 := Lib.hid (HA1.out.below hb2'); have HF2 := Lib.hid hf2; have HB2 := Lib.hid (HB1.out.trans (hb2'.mono HB1.out.size)); have HQ2 := Lib.hid (HQ1.out.below hb2' HQ1.out.lt); clear hb2 hb2' hf2; obtain ⟨e0, e1⟩ := HQ2.out.two)
          | (go_at_call 21; (with_reducible refine (HFR.out _ HA2.out).mono ?_); rintro e w3 ⟨B3, m3, rfl, -, -, hf3, hb3⟩; have HF3 := Lib.hid (HF2.out.below hb3); have HG3 := Lib.hid hf3; have HB3 := Lib.hid (HB2.out.trans (hb3.mono HB2.out.size)); have HQ3 := Lib.hid (HQ2.out.below hb3 HQ2.out.lt); clear hb3 hf3; obtain ⟨x0, x1⟩ := HQ3.out.two)
          | (go_at_call 19; (with_reducible refine (samePriced_yes _ _ _ _ _ Fs _ HF3.out HG3.out HLN.out.1 HLN.out.2).mono ?_); rintro e w4 ⟨rfl, hb4⟩; have HB4 := Lib.hid (HB3.out.trans (hb4.mono HB3.out.size)); have HQ4 := Lib.hid (HQ3.out.below hb4 HQ3.out.lt); clear hb4; obtain ⟨y0, y1⟩ := HQ4.out.two)
          | (go_at_call 9; (with_reducible refine (awake_any _).mono ?_); rintro e w5 ⟨rfl, hb5⟩; have HB5 := Lib.hid (HB4.out.trans (hb5.mono HB4.out.size)); have HQ5 := Lib.hid (HQ4.out.below hb5 HQ4.out.lt); clear hb5; obtain ⟨z0, z1⟩ := HQ5.out.two))
      go_wp2_with fail
      go_ret
      exact ⟨rfl, HB5.out⟩
end Go.Proofs.Ythjckkcafhiomaa
