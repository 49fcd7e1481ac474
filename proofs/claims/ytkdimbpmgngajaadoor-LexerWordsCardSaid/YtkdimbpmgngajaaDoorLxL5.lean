/- Walk of the law on keywords and texts. -/
import Derived.Test.YtkdimbpmgngajaaDoorLxRh
namespace Go.Proofs.YtkdimbpmgngajaaDoor
open Go Go.Lib Go.RowKit Lx Go.Maps

namespace Lx
theorem tw_al2 (q : UInt8 → Bool) : ∀ x : Wd, x.all q = true → x.takeWhile q = x ∧ x.dropWhile q = []
  | [], _ => ⟨rfl, rfl⟩
  | b :: x, h => by
    rw [List.all_cons, Bool.and_eq_true] at h
    obtain ⟨h1, h2⟩ := tw_al2 q x h.2
    rw [List.takeWhile_cons, List.dropWhile_cons, if_pos h.1, if_pos h.1, h1, h2]
    exact ⟨rfl, rfl⟩
/-- A text between double quotes is one token. -/
theorem scn_quote {x : Wd} (h : x.all txtB = true) (hl : x.length ≤ 200) : scn (34 :: (x ++ [34])) = .ok [⟨3, x.length + 2, x⟩, ⟨0, 0, []⟩] := by
  obtain ⟨h1, h2⟩ := tw_al2 txtB x h
  obtain ⟨e1, e2⟩ := tw_stop txtB 34 [] (by decide) x
  have hk : skp false (34 :: (x ++ [34])) = 34 :: (x ++ [34]) := by rw [skp, if_neg (by decide), if_neg (by decide)]
  have ht : tok (34 :: (x ++ [34])) = .ok (3, x, []) := by
    rw [tok, if_neg (by decide), if_neg (by decide), if_pos (by decide), e1, e2, h1, h2]
    unfold qut
    simp only [List.nil_append, beq_self_eq_true, if_true]
    rw [if_neg (by omega)]
  rw [scn_tok hk ht, scn_end rfl]
  simp [put]
end Lx
set_option maxRecDepth 100000 in
set_option maxHeartbeats 16000000 in
theorem walkLexerWords (s : ByteArray) (w : World) (hs : s.size ≤ maxLen) :
    Calls Tryd.prog 7 #[.string s] w fun e w' => e = .returned (.bool true) ∧ Below w.heap.size w w' := by
  have hs9 := hs
  unfold maxLen at hs9
  by_cases hbig : 2000 < s.size
  · have d1 : decide ((2000 : Int) < (s.size : Int)) = true := decide_eq_true (by omega)
    clear hs hbig
    go_enter Tryd.func7, Tryd.ntmps7
    go_wp2_with (go_at_call 9; (with_reducible refine (awake_any _).mono ?_); rintro e w6 ⟨rfl, hb6⟩)
    go_ret
    exact ⟨rfl, hb6⟩
  · have d1 : decide ((2000 : Int) < (s.size : Int)) = false := decide_eq_false (by omega)
    obtain ⟨v, hv⟩ : ∃ v, kwB s = v := ⟨_, rfl⟩
    have HK := Lib.hid (fun W => keyword_any s W)
    have HRK := Lib.hid (fun W => refKeyword_any s W)
    have HQ := Lib.hid (fun W => quote_any s W hs)
    have HRQ := Lib.hid (fun W => refQuote_any s W hs)
    rw [hv] at HK HRK
    have hvv : (v != v) = false := by cases v <;> rfl
    clear hv
    by_cases hq : s.size ≤ 200 ∧ s.data.toList.all txtB = true
    · obtain ⟨Q, hQ⟩ : ∃ Q, quoV s = Q := ⟨_, rfl⟩
      rw [hQ] at HQ HRQ
      have hQl : Q.data.toList = 34 :: (s.data.toList ++ [34]) := by rw [← hQ]; unfold quoV; rw [if_pos hq]; simp
      have hQz : Q.size = s.size + 2 := by
        have := congrArg List.length hQl
        simp at this; omega
      have HX := Lib.hid (fun W => scn_good Q W (by unfold maxLen; omega) (D := [⟨3, s.data.toList.length + 2, s.data.toList⟩, ⟨0, 0, []⟩]) (n := 2) (by rw [hQl, scnP_small (by simp; omega)]; exact scn_quote hq.2 (by simp; omega)) rfl)
      have hQe : (Q.toList == []) = false := by rw [ByteArray.toList_eq, hQl]; rfl
      have hQn : (Q.toList == Q.toList) = true := by rw [beq_iff_eq]
      have HZ : Hid (Q.size - (s.data.toList.length + 2) = 0) := Lib.hid (by simp; omega)
      have heq := eqTk_same 3 0 0 s
      have hgd := guardTk
      clear hQ hQl hQz hq hs hbig
      go_enter Tryd.func7, Tryd.ntmps7
      go_wp2_with (first
        | (go_at_call 17; (with_reducible refine (HQ.out _).mono ?_); rintro e w1 ⟨rfl, rfl⟩)
        | (go_at_call 18; (with_reducible refine (HK.out _).mono ?_); rintro e w1 ⟨rfl, rfl⟩)
        | (go_at_call 19; (with_reducible refine (HRK.out _).mono ?_); rintro e w2 ⟨rfl, hb2⟩; have HB2 := Lib.hid hb2; clear hb2)
        | (go_at_call 20; (with_reducible refine (HRQ.out _).mono ?_); rintro e w3 ⟨rfl, rfl⟩)
        | (go_at_call 10; (with_reducible refine (HX.out _).mono ?_); rintro e w4 ⟨A, c, rfl, hc2, hm2, hT, hb4⟩; have HB4 := Lib.hid (HB2.out.trans (hb4.mono HB2.out.size)); clear hb4; obtain ⟨b, rfl, hbl, a0, a1, a2, a3⟩ := hT 0 (Nat.succ_pos 1); have A0 : w4.cell? ⟨b, 0, none⟩ = some (.int .i64 3) := a0; have A1 : w4.cell? ⟨b, 1, none⟩ = some (.int .i64 0) := a1; have A2 : w4.cell? ⟨b, 2, none⟩ = some (.int .i64 0) := a2.trans (congrArg some (congrArg (Value.int .i64) (congrArg Nat.cast HZ.out))); have A3 : w4.cell? ⟨b, 3, none⟩ = some (.string s) := a3; clear a0 a1 a2 a3 hT hbl)
        | (go_at_call 9; (with_reducible refine (awake_any _).mono ?_); rintro e w6 ⟨rfl, hb6⟩; have HB6 := Lib.hid (HB4.out.trans (hb6.mono HB4.out.size)); clear hb6))
      go_ret
      exact ⟨rfl, HB6.out⟩
    · have hQ := quo_no hq
      rw [hQ] at HQ HRQ
      clear hQ hq hs hbig
      go_enter Tryd.func7, Tryd.ntmps7
      go_wp2_with (first
        | (go_at_call 17; (with_reducible refine (HQ.out _).mono ?_); rintro e w1 ⟨rfl, rfl⟩)
        | (go_at_call 18; (with_reducible refine (HK.out _).mono ?_); rintro e w1 ⟨rfl, rfl⟩)
        | (go_at_call 19; (with_reducible refine (HRK.out _).mono ?_); rintro e w2 ⟨rfl, hb2⟩; have HB2 := Lib.hid hb2; clear hb2)
        | (go_at_call 20; (with_reducible refine (HRQ.out _).mono ?_); rintro e w3 ⟨rfl, rfl⟩)
        | (go_at_call 9; (with_reducible refine (awake_any _).mono ?_); rintro e w6 ⟨rfl, hb6⟩; have HB6 := Lib.hid (HB2.out.trans (hb6.mono HB2.out.size)); clear hb6))
      go_ret
      exact ⟨rfl, HB6.out⟩
end Go.Proofs.YtkdimbpmgngajaaDoor
