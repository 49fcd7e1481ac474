/- Walk of the law that the tokens are the document's. -/
import Derived.Test.YtkdimbpmgngajaaDoorLxRm
import Derived.Test.YtkdimbpmgngajaaDoorLxL4
namespace Go.Proofs.YtkdimbpmgngajaaDoor
open Go Go.Lib Go.RowKit Lx Go.Maps

set_option maxRecDepth 100000 in
set_option maxHeartbeats 16000000 in
theorem walkLexerScans (s : ByteArray) (w : World) (hs : s.size ≤ maxLen) :
    Calls Tryd.prog 3 #[.string s] w fun e w' => e = .returned (.bool true) ∧ Below w.heap.size w w' := by
  have hs9 := hs
  unfold maxLen at hs9
  by_cases hbig : 2000 < s.size
  · have d1 : decide ((2000 : Int) < (s.size : Int)) = true := decide_eq_true (by omega)
    clear hs hbig
    go_enter Tryd.func3, Tryd.ntmps3
    go_wp2_with (go_at_call 9; (with_reducible refine (awake_any _).mono ?_); rintro e w6 ⟨rfl, hb6⟩)
    go_ret
    exact ⟨rfl, hb6⟩
  · have d1 : decide ((2000 : Int) < (s.size : Int)) = false := decide_eq_false (by omega)
    have hsl : s.data.toList.length = s.size := by simp
    have hs2 : s.size ≤ 2000 := by omega
    cases hS : scn s.data.toList with
    | error y =>
      obtain ⟨m, e⟩ := y
      obtain ⟨p, hp⟩ : ∃ p, s.size - m = p := ⟨_, rfl⟩
      have HX1 := Lib.hid (fun W => scn_bad s W hs (by rw [scnP_small (by omega)]; exact hS) hp)
      have HX2 := Lib.hid (fun W => refScn_bad s W hs (by rw [scnP_small (by omega)]; exact hS) hp)
      have d3 : ((p : Int) == (p : Int)) = true := by simp
      have d4 : ((e : Int) == (e : Int)) = true := by simp
      clear hS hs hbig hp
      go_enter Tryd.func3, Tryd.ntmps3
      go_wp2_with (first
        | (go_at_call 10; (with_reducible refine (HX1.out _).mono ?_); rintro e w1 ⟨rfl, hb1⟩; have HB1 := Lib.hid hb1; clear hb1)
        | (go_at_call 11; (with_reducible refine (HX2.out _).mono ?_); rintro e w2 ⟨rfl, hb2⟩; have HB2 := Lib.hid (HB1.out.trans (hb2.mono HB1.out.size)); clear hb2)
        | (go_at_call 12; refine (refSame_yes none none 0 0 0 _ (by decide) (fun i hi => absurd hi (Nat.not_lt_zero i))).mono ?_; rintro e w3 ⟨rfl, n3, rfl⟩)
        | (go_at_call 9; (with_reducible refine (awake_any _).mono ?_); rintro e w4 ⟨rfl, hb4⟩; have HB4 := Lib.hid (below_d HB2.out hb4); clear hb4))
      go_ret
      exact ⟨rfl, HB4.out⟩
    | ok D =>
      obtain ⟨hDr, hD0, hDl⟩ := scn_ok_at hS
      obtain ⟨n, hn⟩ : ∃ n, D.length = n := ⟨_, rfl⟩
      have HX1 := Lib.hid (fun W => scn_good s W hs (by rw [scnP_small (by omega)]; exact hS) hn)
      have HX2 := Lib.hid (fun W => refScn_good s W hs (by rw [scnP_small (by omega)]; exact hS) hn)
      have HN := Lib.hid hn
      have hn2 : n ≤ 2001 := by omega
      clear hS hs hbig hDr hn hD0 hDl
      go_enter Tryd.func3, Tryd.ntmps3
      go_wp2_with (first
        | (go_at_call 10; (with_reducible refine (HX1.out _).mono ?_); rintro e w1 ⟨A1, c1, rfl, hc1, hm1, ht1, hb1⟩; have HB1 := Lib.hid hb1; have HT1 := Lib.hid ht1; clear hb1 ht1)
        | (go_at_call 11; (with_reducible refine (HX2.out _).mono ?_); rintro e w2 ⟨A2, c2, rfl, hc2, hm2, ht2, hb2⟩; have HB2 := Lib.hid (HB1.out.trans (hb2.mono HB1.out.size)); have HT12 := Lib.hid (HT1.out.below hb2); have HT2 := Lib.hid ht2; clear hb2 ht2)
        | (go_at_call 12; refine (refSame_yes A1 A2 n c1 c2 _ (by unfold maxLen; omega) (fun i hi => ⟨_, _, _, _, HT12.out.at_ (by rw [HN.out]; exact hi), HT2.out.at_ (by rw [HN.out]; exact hi)⟩)).mono ?_; rintro e w3 ⟨rfl, n3, rfl⟩)
        | (go_at_call 9; (with_reducible refine (awake_any _).mono ?_); rintro e w4 ⟨rfl, hb4⟩; have HB4 := Lib.hid (below_d HB2.out hb4); clear hb4))
      go_ret
      exact ⟨rfl, HB4.out⟩
end Go.Proofs.YtkdimbpmgngajaaDoor
