/- Walks of the laws on Check, Names and Find. -/
import Derived.Test.YtflonakoagjmhaaZnLk
namespace Go.Proofs.Ytflonakoagjmhaa
open Go.RowKit Go.Lib Zn

set_option maxRecDepth 100000 in
set_option maxHeartbeats 8000000 in
theorem walkZonesChecks (A : Option Addr) (n c : Nat) (l : List Zm) (w : World) (hA : ZsR w A l) (hn : l.length = n) (hc : n ≤ c) (hm : c ≤ maxLen) (hg : Big l) :
    Calls Try.prog 3 #[.slice A n c] w fun e w' => e = .returned (.bool true) ∧ Below w.heap.size w w' := by
  obtain ⟨v, hv⟩ := few_dec l
  have HF := Lib.hid (few_any A n c l w hA hn hc hm hg v hv)
  cases v
  · clear hA hn hc hm hg hv
    go_enter Try.func3, Try.ntmps3
    go_wp2_with (first
      | (go_at_call 9; (with_reducible refine HF.out.mono ?_); rintro e w1 ⟨rfl, rfl⟩)
      | (go_at_call 10; (with_reducible refine (awake_any _).mono ?_); rintro e w1 ⟨rfl, hb1⟩))
    go_ret
    exact ⟨rfl, hb1⟩
  · have hfw := hv.1 rfl
    have hfit := hfw.fit
    have HC := Lib.hid (check_any A n c l w hA hn hc hm hfit)
    have HR := Lib.hid (fun (W : World) (h : Below w.heap.size w W) => refCheck_any A n c l W (hA.below h) hn hc hm hfit)
    have HN := Lib.hid (fun (W : World) (h : Below w.heap.size w W) => (names_any A n c l W (hA.below h) hn hc hm hfit).mono fun e w' h => nm_out h (by rw [zos_len]; exact hfw.len))
    have HM := Lib.hid (fun (W : World) (h : Below w.heap.size w W) => (refNames_any A n c l W (hA.below h) hn hc hm hfit).mono fun e w' h => nm_out h (by rw [zos_len]; exact hfw.len))
    obtain ⟨ev, hev⟩ : ∃ ev, ckZ (zos l) = ev := ⟨_, rfl⟩
    rw [hev] at HC HR
    clear hA hn hc hm hg hv hfw hfit hev
    go_enter Try.func3, Try.ntmps3
    go_wp2_with (first
      | (go_at_call 9; (with_reducible refine HF.out.mono ?_); rintro e w1 ⟨rfl, rfl⟩)
      | (go_at_call 11; (with_reducible refine HC.out.mono ?_); rintro e w1 ⟨rfl, hb1⟩; have HB1 := Lib.hid hb1; clear hb1)
      | (go_at_call 12; (with_reducible refine (HR.out _ HB1.out).mono ?_); rintro e w2 ⟨rfl, hb2⟩; have HB2 := Lib.hid (HB1.out.trans (hb2.mono HB1.out.size)); clear hb2)
      | (go_at_call 14; (with_reducible refine (HN.out _ HB2.out).mono ?_); rintro e w3 ⟨A3, N3, c3, L3, rfl, x1, x2, x3, x4, x5⟩; have HX := Lib.hid (And.intro x1 (And.intro x2 (And.intro x3 x4))); have HB3 := Lib.hid (HB2.out.trans (x5.mono HB2.out.size)); clear x1 x2 x3 x4 x5)
      | (go_at_call 15; (with_reducible refine (HM.out _ HB3.out).mono ?_); rintro e w4 ⟨A4, N4, c4, L4, rfl, y1, y2, y3, y4, y5⟩; have HT := Lib.hid (texts_ok A3 A4 N3 c3 N4 c4 L3 L4 w4 (HX.out.2.2.1.below y5) HX.out.1 y3 y1 HX.out.2.1 (HX.out.2.2.2.eq y4)); have HB4 := Lib.hid (HB3.out.trans (y5.mono HB3.out.size)); clear y1 y2 y3 y4 y5)
      | (go_at_call 13; (with_reducible refine HT.out.mono ?_); rintro e w5 ⟨rfl, hb5⟩; have HB5 := Lib.hid (HB4.out.trans (hb5.mono HB4.out.size)); clear hb5)
      | (go_at_call 10; (with_reducible refine (awake_any _).mono ?_); rintro e w6 ⟨rfl, hb6⟩))
    go_ret
    exact ⟨rfl, HB5.out.trans (hb6.mono HB5.out.size)⟩
set_option maxRecDepth 100000 in
set_option maxHeartbeats 8000000 in
theorem walkZonesFinds (A : Option Addr) (n c : Nat) (l : List Zm) (s : ByteArray) (w : World) (hA : ZsR w A l) (hn : l.length = n) (hc : n ≤ c) (hm : c ≤ maxLen) (hg : Big l) (hs : s.size ≤ maxLen) :
    Calls Try.prog 4 #[.slice A n c, .string s] w fun e w' => e = .returned (.bool true) ∧ Below w.heap.size w w' := by
  obtain ⟨v, hv⟩ := few_dec l
  have HF := Lib.hid (few_any A n c l w hA hn hc hm hg v hv)
  have hs9 := hs
  unfold maxLen at hs9
  cases v
  · clear hA hn hc hm hg hv hs
    go_enter Try.func4, Try.ntmps4
    go_wp2_with (first
      | (go_at_call 9; (with_reducible refine HF.out.mono ?_); rintro e w1 ⟨rfl, rfl⟩)
      | (go_at_call 10; (with_reducible refine (awake_any _).mono ?_); rintro e w1 ⟨rfl, hb1⟩))
    go_ret
    exact ⟨rfl, hb1⟩
  · by_cases hbig : 1000 < s.size
    · have d1 : decide ((1000 : Int) < (s.size : Int)) = true := decide_eq_true (by omega)
      clear hA hn hc hm hg hv hs hbig
      go_enter Try.func4, Try.ntmps4
      go_wp2_with (first
        | (go_at_call 9; (with_reducible refine HF.out.mono ?_); rintro e w1 ⟨rfl, rfl⟩)
        | (go_at_call 10; (with_reducible refine (awake_any _).mono ?_); rintro e w1 ⟨rfl, hb1⟩))
      go_ret
      exact ⟨rfl, hb1⟩
    · have d1 : decide ((1000 : Int) < (s.size : Int)) = false := decide_eq_false (by omega)
      have hfit := (hv.1 rfl).fit
      obtain ⟨V, hV⟩ := ba_of (fnd (zos l) s.data.toList)
      obtain ⟨b, hb⟩ : ∃ b, (!V.data.toList.isEmpty) = b := ⟨_, rfl⟩
      have HC := Lib.hid (find_is A n c l s V b w hA hn hc hm hfit hs hV hb)
      have HR := Lib.hid (fun (W : World) (h : Below w.heap.size w W) => refFind_is A n c l s V b W (hA.below h) hn hc hm hfit hs hV hb)
      clear hA hn hc hm hg hv hs hfit hV hb hbig
      go_enter Try.func4, Try.ntmps4
      go_wp2_with (first
        | (go_at_call 9; (with_reducible refine HF.out.mono ?_); rintro e w1 ⟨rfl, rfl⟩)
        | (go_at_call 16; (with_reducible refine HC.out.mono ?_); rintro e w1 ⟨rfl, hb1⟩; have HB1 := Lib.hid hb1; clear hb1)
        | (go_at_call 17; (with_reducible refine (HR.out _ HB1.out).mono ?_); rintro e w2 ⟨rfl, hb2⟩; have HB2 := Lib.hid (HB1.out.trans (hb2.mono HB1.out.size)); clear hb2)
        | (go_at_call 10; (with_reducible refine (awake_any _).mono ?_); rintro e w6 ⟨rfl, hb6⟩))
      go_ret
      exact ⟨rfl, HB2.out.trans (hb6.mono HB2.out.size)⟩
end Go.Proofs.Ytflonakoagjmhaa
