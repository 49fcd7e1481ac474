/- Walk of the law on At and Names. -/
import Derived.Test.YthjckkcafhiomaaPdL1
namespace Go.Proofs.Ythjckkcafhiomaa
open Go.RowKit Pd

namespace Pd
theorem at_uni (A : Option Addr) (n c : Nat) (l : List Pr) (nm : ByteArray) (t : Int) (o : Option Pr) (ho : verA l nm t = o) (hs : Bool) (hhs : o.isSome = hs) (w : World) (hA : PrR w A l) (hn : l.length = n) (h6 : n ≤ 1000000) (hb : ∀ p ∈ l, p.n ≤ 1000000) :
    Calls Try.prog 13 #[.slice A n c, .string nm, .int .i64 t] w fun e w' => ∃ p' : Pr, e = .returned (.tuple #[.agg p'.cells, .bool hs]) ∧ PrOk w' p' ∧ DeepP (o.getD pr0) p' ∧ Below w.heap.size w w' := by
  subst ho hhs
  refine (at_any A n c l nm t w hA hn h6 hb).mono fun e w' h => ?_
  unfold AtOut at h
  cases ho : verA l nm t with
  | none =>
    rw [ho] at h
    obtain ⟨rfl, hb⟩ := h
    exact ⟨pr0, rfl, PrOk.zero _, DeepP.refl _, hb⟩
  | some p =>
    rw [ho] at h
    obtain ⟨p', rfl, h1, h2, h3⟩ := h
    exact ⟨p', rfl, h1, h2, h3⟩
theorem refAt_is (A : Option Addr) (n c : Nat) (l : List Pr) (nm : ByteArray) (t : Int) (p : Pr) (ho : (verA l nm t).getD pr0 = p) (hs : Bool) (hhs : (verA l nm t).isSome = hs) (w : World) (hA : PrR w A l) (hn : l.length = n) (h6 : n ≤ 1000000) :
    Calls Try.prog 14 #[.slice A n c, .string nm, .int .i64 t] w fun e w' => e = .returned (.tuple #[.agg p.cells, .bool hs]) ∧ Below w.heap.size w w' := by
  subst ho hhs; exact refAt_any A n c l nm t w hA hn h6
theorem verA_ok {l : List Pr} {nm : ByteArray} {t : Int} {w : World} (h : ∀ p ∈ l, PrOk w p) : PrOk w ((verA l nm t).getD pr0) := by
  cases ho : verA l nm t with
  | none => exact PrOk.zero w
  | some p =>
    unfold verA at ho
    exact h p (List.mem_filter.1 (List.mem_of_getLast? ho)).1
theorem names_is (A : Option Addr) (n c : Nat) (l : List Pr) (t : Int) (Ls : List ByteArray) (hL : namesP l t = Ls) (N : Nat) (hN : Ls.length = N) (w : World) (hA : PrR w A l) (hn : l.length = n) (h6 : n ≤ 1000000) :
    Calls Try.prog 17 #[.slice A n c, .int .i64 t] w fun e w' => ∃ B c', e = .returned (.slice B N c') ∧ ZsR w' B Ls ∧ Below w.heap.size w w' := by
  subst hL hN
  exact (names_any A n c l t w hA hn h6).mono fun e w' ⟨B, c', he, _, _, hz, hb⟩ => ⟨B, c', he, hz, hb⟩
theorem refNames_is (A : Option Addr) (n c : Nat) (l : List Pr) (t : Int) (Ls : List ByteArray) (hL : namesR l t = Ls) (N : Nat) (hN : Ls.length = N) (w : World) (hA : PrR w A l) (hn : l.length = n) (h6 : n ≤ 1000000) :
    Calls Try.prog 18 #[.slice A n c, .int .i64 t] w fun e w' => ∃ B c', e = .returned (.slice B N c') ∧ ZsR w' B Ls ∧ Below w.heap.size w w' := by
  subst hL hN
  exact (refNames_any A n c l t w hA hn h6).mono fun e w' ⟨B, c', he, _, _, hz, hb⟩ => ⟨B, c', he, hz, hb⟩
theorem namesP_len (l : List Pr) (t : Int) : (namesP l t).length ≤ l.length := by
  unfold namesP
  refine Nat.le_trans (cmpl_len _) ?_
  rw [List.length_map]
  exact List.length_filter_le _ _
end Pd
set_option maxRecDepth 100000 in
set_option maxHeartbeats 16000000 in
theorem walkProductAt (A : Option Addr) (n c : Nat) (l : List Pr) (nm : ByteArray) (t : Int) (w : World) (hA : PrR w A l) (hn : l.length = n) (hc : n ≤ c) (hm : c ≤ maxLen) :
    Calls Try.prog 4 #[.slice A n c, .string nm, .int .i64 t] w fun e w' => e = .returned (.bool true) ∧ Below w.heap.size w w' := by
  obtain ⟨v, hv⟩ : ∃ v, fewB l = v := ⟨_, rfl⟩
  have HF := Lib.hid (few_is A n c l v hv w hA hn hc hm)
  have HV := Lib.hid hv; have HA := Lib.hid hA; have HN := Lib.hid hn
  clear hA hn hc hm hv
  cases v
  · go_enter Try.func4, Try.ntmps4
    go_wp2_with (first
      | (go_at_call 8; (with_reducible refine HF.out.mono ?_); rintro e w1 ⟨rfl, rfl⟩)
      | (go_at_call 9; (with_reducible refine (awake_any _).mono ?_); rintro e w1 ⟨rfl, hb1⟩))
    go_ret
    exact ⟨rfl, hb1⟩
  · have hle : n ≤ 1000000 := by have := few_len HV.out; have := HN.out; omega
    obtain ⟨u, hu⟩ : ∃ u, asc l = u := ⟨_, rfl⟩
    have HAS := Lib.hid (fun (W : World) (h : PrR W A l) => asc_is A n c l u hu W h HN.out hle)
    have HU := Lib.hid hu
    clear hu
    cases u
    · go_enter Try.func4, Try.ntmps4
      go_wp2_with (first
        | (go_at_call 8; (with_reducible refine HF.out.mono ?_); rintro e w1 ⟨rfl, rfl⟩)
        | (go_at_call 12; (with_reducible refine (HAS.out _ HA.out).mono ?_); rintro e w1 ⟨rfl, hb1⟩; have HB1 := Lib.hid hb1; clear hb1)
        | (go_at_call 9; (with_reducible refine (awake_any _).mono ?_); rintro e w2 ⟨rfl, hb2⟩; have HB2 := Lib.hid (HB1.out.trans (hb2.mono HB1.out.size)); clear hb2))
      go_ret
      exact ⟨rfl, HB2.out⟩
    · have hsm : ∀ p ∈ l, p.n ≤ 1000000 := fun p hp => by have := few_mem HV.out p hp; omega
      obtain ⟨hs, hhs⟩ : ∃ hs, (verA l nm t).isSome = hs := ⟨_, rfl⟩
      obtain ⟨p, hp⟩ : ∃ p, (verA l nm t).getD pr0 = p := ⟨_, rfl⟩
      obtain ⟨Ls, hLs⟩ : ∃ Ls, namesP l t = Ls := ⟨_, rfl⟩
      obtain ⟨N, hN⟩ : ∃ N, Ls.length = N := ⟨_, rfl⟩
      have HAT := Lib.hid (fun (W : World) (h : PrR W A l) => at_uni A n c l nm t _ rfl hs hhs W h HN.out hle hsm)
      have HRT := Lib.hid (fun (W : World) (h : PrR W A l) => refAt_is A n c l nm t p hp hs hhs W h HN.out hle)
      have HNA := Lib.hid (fun (W : World) (h : PrR W A l) => names_is A n c l t Ls hLs N hN W h HN.out hle)
      have HNR := Lib.hid (fun (W : World) (h : PrR W A l) => refNames_is A n c l t Ls ((names_same HU.out t).trans hLs) N hN W h HN.out hle)
      have HPO := Lib.hid (fun (W : World) (h : PrR W A l) => (hp ▸ verA_ok (nm := nm) (t := t) h.ok : PrOk W p))
      rw [hp] at HAT
      have hNl : N ≤ maxLen := by have := namesP_len l t; rw [hLs, hN, HN.out] at this; unfold maxLen; omega
      have HLN := Lib.hid (show Ls.length = N ∧ N ≤ maxLen from ⟨hN, hNl⟩)
      obtain ⟨qn, qfr, qfe, qca, qpr, qA, qN, qC, qbs⟩ := p
      simp only [Pr.cells] at HRT
      clear hhs hp hLs hN hNl hsm
      go_enter Try.func4, Try.ntmps4
      go_wp2_with (first
        | (go_at_call 8; (with_reducible refine HF.out.mono ?_); rintro e w1 ⟨rfl, rfl⟩)
        | (go_at_call 12; (with_reducible refine (HAS.out _ HA.out).mono ?_); rintro e w1 ⟨rfl, hb1⟩; have HB1 := Lib.hid hb1; clear hb1)
        | (go_at_call 13; (with_reducible refine (HAT.out _ (HA.out.below HB1.out)).mono ?_); rintro e w2 ⟨p', rfl, y1, y2, hb2⟩; have HB2 := Lib.hid (HB1.out.trans (hb2.mono HB1.out.size)); have HY := Lib.hid (show PrOk w2 p' ∧ DeepP ⟨qn, qfr, qfe, qca, qpr, qA, qN, qC, qbs⟩ p' from ⟨y1, y2⟩); clear y1 y2 hb2; obtain ⟨an, afr, afe, aca, apr, aA, aN, aC, abs⟩ := p'; simp only [Pr.cells]; obtain ⟨W3, hW3⟩ : ∃ W3, w2.alloc (.cells #[.string an, .int .i64 afr, .int .i64 afe, .string aca, .bool apr, .slice aA aN aC] 29) = W3 := ⟨_, rfl⟩; obtain ⟨g3, hg3⟩ : ∃ g3, w2.heap.size = g3 := ⟨_, rfl⟩; have hb3 : Below w2.heap.size w2 W3 := (hW3 ▸ below_one w2 _); have HQ3 : Hid (Blk W3 g3 29 #[.string an, .int .i64 afr, .int .i64 afe, .string aca, .bool apr, .slice aA aN aC]) := Lib.hid (hW3 ▸ hg3 ▸ Blk.new w2 _ _); have HB3 := Lib.hid (HB2.out.trans (hb3.mono HB2.out.size)); have HY3 := Lib.hid (HY.out.1.below hb3); clear hb3)
        | (go_at_call 14; (with_reducible refine (HRT.out _ (HA.out.below HB3.out)).mono ?_); rintro e w4 ⟨rfl, hb4⟩; have HB4 := Lib.hid (HB3.out.trans (hb4.mono HB3.out.size)); have HQ4 := Lib.hid (HQ3.out.below hb4 HQ3.out.lt); have HY4 := Lib.hid (HY3.out.below hb4); clear hb4 hW3 hg3; obtain ⟨W5, hW5⟩ : ∃ W5, w4.alloc (.cells #[.string qn, .int .i64 qfr, .int .i64 qfe, .string qca, .bool qpr, .slice qA qN qC] 29) = W5 := ⟨_, rfl⟩; obtain ⟨g5, hg5⟩ : ∃ g5, w4.heap.size = g5 := ⟨_, rfl⟩; have hb5 : Below w4.heap.size w4 W5 := (hW5 ▸ below_one w4 _); have HQ5 : Hid (Blk W5 g5 29 #[.string qn, .int .i64 qfr, .int .i64 qfe, .string qca, .bool qpr, .slice qA qN qC]) := Lib.hid (hW5 ▸ hg5 ▸ Blk.new w4 _ _); have HB5 := Lib.hid (HB4.out.trans (hb5.mono HB4.out.size)); have HY5 := Lib.hid (HY4.out.below hb5); obtain ⟨c0, c1, c2, c3, c4, c5⟩ := (HQ4.out.below hb5 HQ4.out.lt).six; obtain ⟨d0, d1, d2, d3, d4, d5⟩ := HQ5.out.six; have HSM := Lib.hid (same_yes ⟨an, afr, afe, aca, apr, aA, aN, aC, abs⟩ ⟨qn, qfr, qfe, qca, qpr, qA, qN, qC, qbs⟩ W5 HY5.out (HPO.out _ (HA.out.below HB5.out)) HY.out.2); simp only [Pr.cells] at HSM; clear hb5)
        | (go_at_call 15; (with_reducible refine HSM.out.mono ?_); rintro e w6 ⟨rfl, hb6⟩; have HB6 := Lib.hid (HB5.out.trans (hb6.mono HB5.out.size)); clear hb6 c0 c1 c2 c3 c4 c5 d0 d1 d2 d3 d4 d5)
        | (go_at_call 17; (with_reducible refine (HNA.out _ (HA.out.below HB6.out)).mono ?_); rintro e w7 ⟨B7, m7, rfl, hz7, hb7⟩; have HB7 := Lib.hid (HB6.out.trans (hb7.mono HB6.out.size)); have HZ7 := Lib.hid hz7; clear hb7 hz7)
        | (go_at_call 18; (with_reducible refine (HNR.out _ (HA.out.below HB7.out)).mono ?_); rintro e w8 ⟨B8, m8, rfl, hz8, hb8⟩; have HB8 := Lib.hid (HB7.out.trans (hb8.mono HB7.out.size)); have HST := Lib.hid (sameTexts_yes B7 B8 N m7 m8 Ls w8 (HZ7.out.below hb8) hz8 HLN.out.1 HLN.out.2); clear hb8 hz8)
        | (go_at_call 16; (with_reducible refine HST.out.mono ?_); rintro e w9 ⟨rfl, hb9⟩; have HB9 := Lib.hid (HB8.out.trans (hb9.mono HB8.out.size)); clear hb9)
        | (go_at_call 9; (with_reducible refine (awake_any _).mono ?_); rintro e w10 ⟨rfl, hb10⟩; have HB10 := Lib.hid (HB9.out.trans (hb10.mono HB9.out.size)); clear hb10))
      go_ret
      exact ⟨rfl, HB10.out⟩
end Go.Proofs.Ythjckkcafhiomaa
