/- Walk: the law on texts of many lines. -/
import Derived.Test.YtokdfdinnaghmaaDoorTxAR
import Derived.Test.YtokdfdinnaghmaaDoorPkS
import Derived.Lib.QuietBelow
namespace Go.Proofs.YtokdfdinnaghmaaDoor.Va
open Go Go.RowKit Go.Proofs.YtokdfdinnaghmaaDoor.Tx

theorem byt_inj : ∀ {a b : List ByteArray}, byt a = byt b → a = b
  | [], [], _ => rfl
  | [], _ :: _, h => by cases h
  | _ :: _, [], h => by cases h
  | x :: a, y :: b, h => by
    injection h with h1 h2
    rw [ba_eq h1, byt_inj h2]
/-- The lines of a text and the error. -/
def LinesU (l : Wd) (w : World) (e : Ending) (w' : World) : Prop :=
  ∃ v ls, e = .returned (.tuple #[v, .int .i64 (allX l)]) ∧ byt ls = allL l ∧ w'.ownsRow w.heap.size 9 1 v ls.length (ls.map Value.string) ∧ Below w.heap.size w w'
theorem lines_u {l : Wd} {w : World} {e : Ending} {w' : World} (h : LinesOut l w e w') (h2 : (spl 10 l).length ≤ 4097) : LinesU l w e w' := by
  obtain ⟨h1, -, h3, h4⟩ := h
  cases hok : okL l with
  | false => exact ⟨_, [], by rw [h1 hok]; unfold allX; rw [hok]; rfl, by unfold allL; rw [hok]; rfl, World.ownsRow_nil _ _ _ _, h4⟩
  | true =>
    obtain ⟨v, ls, he, hls, -, ho⟩ := h3 hok h2
    exact ⟨v, ls, by rw [he]; unfold allX; rw [hok]; rfl, by rw [hls]; unfold allL; rw [hok]; rfl, ho, h4⟩
set_option maxRecDepth 100000 in
set_option maxHeartbeats 8000000 in
theorem walkTextualTexts (s : ByteArray) (w : World) (_hs : s.size ≤ maxLen) (hE : Env w) : Calls Tryd.prog 5 #[.string s] w fun e w' => e = .returned (.bool true) ∧ Below w.heap.size w w' := by
  have HV : Hid (∀ W, Below w.heap.size w W → Env W) := Lib.hid fun W h => hE.below h
  clear hE _hs
  by_cases hl : 3000 < s.size
  · have d0 : decide ((3000 : Int) < (s.size : Int)) = true := decide_eq_true (by omega)
    clear hl
    go_enter Tryd.func5, Tryd.ntmps5
    go_wp2_with (go_at_call 9; (with_reducible refine (alive_any _ (HV.out _ (Below.refl _ _))).mono ?_); rintro e w2 ⟨rfl, hb2⟩; have HB2 := Lib.hid hb2; clear hb2)
    go_ret
    exact ⟨rfl, HB2.out⟩
  · have d0 : decide ((3000 : Int) < (s.size : Int)) = false := decide_eq_false (by omega)
    have h97 : (spl 10 s.data.toList).length ≤ 4097 := by have := Tx.spl_len_le 10 s.data.toList; rw [bsz] at this; omega
    have HL1 := Lib.hid (fun W => (lines_any s W (by unfold maxLen; omega)).mono fun e w' h => lines_u h h97)
    have HL2 := Lib.hid (fun W => (refLines_any s W (by omega)).mono fun e w' h => lines_u h h97)
    have HP1 := Lib.hid (fun W (hE : Env W) => all_any s W (by omega) h97 hE)
    have HP2 := Lib.hid (fun W => refAll_any s W (by omega) h97)
    have hNl := allL_len s.data.toList
    rw [bsz] at hNl
    unfold LinesU at HL1 HL2
    unfold AllOut at HP1 HP2
    obtain ⟨x, hx⟩ : ∃ x, allX s.data.toList = x := ⟨_, rfl⟩
    obtain ⟨N, hNN⟩ : ∃ N, (allL s.data.toList).length = N := ⟨_, rfl⟩
    obtain ⟨K, hK⟩ : ∃ K, allL s.data.toList = K := ⟨_, rfl⟩
    obtain ⟨D, hD⟩ : ∃ D, allD s.data.toList = D := ⟨_, rfl⟩
    obtain ⟨E, hEE⟩ : ∃ E, allE s.data.toList = E := ⟨_, rfl⟩
    rw [hx, hNN, hD, hEE] at HP1 HP2
    rw [hx, hK] at HL1 HL2
    have HKN : Hid (K.length = N) := Lib.hid (by rw [← hK, hNN])
    rw [hNN] at hNl
    have hN : N ≤ 3000 := by omega
    have hl1 : (pasN D E N).length ≤ N := pas_len
    have hl2 : (rejN E N).length ≤ N := rej_len
    obtain ⟨a, ha⟩ : ∃ a, (pasN D E N).length = a := ⟨_, rfl⟩
    obtain ⟨b, hb⟩ : ∃ b, (rejN E N).length = b := ⟨_, rfl⟩
    rw [ha] at hl1
    rw [hb] at hl2
    have HA := Lib.hid ha; have HBB := Lib.hid hb
    have HAM : Hid (a ≤ 1000000) := Lib.hid (by omega)
    have HBM : Hid (b ≤ 1000000) := Lib.hid (by omega)
    clear hx hNN hD hEE hK hl hl1 hl2 ha hb h97 hNl
    go_enter Tryd.func5, Tryd.ntmps5
    go_wp2_with (first
      | (go_at_call 14; (with_reducible refine (HL1.out _).mono ?_); rintro e w1 ⟨v1, ls, rfl, hls, ho, hb1⟩; have hln : ls.length = N := (by rw [← byt_len, hls]; exact HKN.out); rw [hln] at ho; obtain ⟨A1, c1, rfl⟩ := own_slice ho; have HR1 := Lib.hid (lines_row ho hln); have HLS := Lib.hid hls; have HB1 := Lib.hid hb1; clear hls ho hln hb1)
      | (go_at_call 15; (with_reducible refine (HL2.out _).mono ?_); rintro e w2 ⟨v2, ls2, rfl, hls, ho, hb2⟩; obtain rfl : ls2 = ls := byt_inj (hls.trans HLS.out.symm); have hln : ls2.length = N := (by rw [← byt_len, hls]; exact HKN.out); rw [hln] at ho; obtain ⟨A2, c2, rfl⟩ := own_slice ho; have HR2 := Lib.hid (lines_row ho hln); have HR1 := Lib.hid (HR1.out.below hb2); have HB2 := Lib.hid (HB1.out.trans (hb2.mono HB1.out.size)); clear hls ho hln hb2))
    go_loopw [7] (fun iv wr => ∃ k : Nat, iv = .int .i64 k ∧ k ≤ N ∧ Hid (Below w2.heap.size w2 wr)) (fun iv _ => N - (intOf iv).toNat)
    case atStart => exact ⟨0, rfl, by omega, Lib.hid (Below.refl _ _)⟩
    case round =>
      obtain ⟨k, rfl, hk, HBR⟩ := hrel
      by_cases hlt : k < N
      · have hlt' : (k : Int) < (N : Int) := by omega
        have hk0 : (0 : Int) ≤ (k : Int) := by omega
        obtain ⟨g1, rfl, -, q1⟩ := HR1.out.below HBR.out k hlt
        obtain ⟨g2, rfl, -, q2⟩ := HR2.out.below HBR.out k hlt
        obtain ⟨z, hz⟩ : ∃ z, ls2.getD k ⟨#[]⟩ = z := ⟨_, rfl⟩
        rw [hz] at q1 q2
        have r1 := fun d os => cell_regrown q1 d os
        have r2 := fun d os => cell_regrown q2 d os
        clear hz
        go_wp2_with fail
        refine wp_region_quiet_below (by kernel_rfl) (by kernel_rfl) ?_
        iterate 9 (go_big_quiet_step (fail))
        refine wpQuiet_nil ?_
        intro Wq hw'
        have hbq : Below w2.heap.size w2 Wq := by
          obtain ⟨⟨dq, osq⟩, hw''⟩ := hw'
          rw [hw'']; exact HBR.out.trans ((below_regrown _ _ _).mono HBR.out.size)
        clear hw' r1 r2
        have HBQ := Lib.hid hbq
        clear hbq
        go_wp2_with fail
        go_roundw
        case rel => exact ⟨k + 1, by go_num, by omega, HBQ⟩
        case measure => simp [intOf]; omega
      · obtain rfl : k = N := by omega
        have HB3 := Lib.hid (HB2.out.trans (HBR.out.mono HB2.out.size))
        go_wp2_with (first
          | (go_at_call 16; (with_reducible refine (HP1.out _ (HV.out _ HB3.out)).mono ?_); rintro e w4 ⟨v1, u1, rfl, ht⟩; have HT1 := Lib.hid ht; have HB4 := Lib.hid (HB3.out.trans ((two_below ht).mono HB3.out.size)); clear ht)
          | (go_at_call 17; (with_reducible refine (HP2.out _).mono ?_); rintro e w5 ⟨v2, u2, rfl, ht⟩; have h1 := own_keep HT1.out.ov (two_below ht); have h2 := own_keep HT1.out.ou (two_below ht); have h3 := ht.ov; have h4 := ht.ou; rw [HA.out] at h1 h3; rw [HBB.out] at h2 h4; obtain ⟨A3, c3, rfl, -, -, r1, -⟩ := rec_own h1 HA.out; obtain ⟨A4, c4, rfl, -, -, r2, -⟩ := rj_own h2 HBB.out; obtain ⟨A5, c5, rfl, -, -, r3, -⟩ := rec_own h3 HA.out; obtain ⟨A6, c6, rfl, -, -, r4, -⟩ := rj_own h4 HBB.out; have HR1 := Lib.hid r1; have HR2 := Lib.hid r2; have HR3 := Lib.hid r3; have HR4 := Lib.hid r4; have HB5 := Lib.hid (HB4.out.trans ((two_below ht).mono HB4.out.size)); clear ht h1 h2 h3 h4 r1 r2 r3 r4)
          | (go_at_call 18; (with_reducible refine (same09 A3 A5 a c3 c5 _ w5 HR1.out HR3.out HA.out HAM.out).mono ?_); rintro e w6 ⟨rfl, hb⟩; have HR2 := Lib.hid (HR2.out.below hb); have HR4 := Lib.hid (HR4.out.below hb); have HB6 := Lib.hid (HB5.out.trans (hb.mono HB5.out.size)); clear hb)
          | (go_at_call 19; (with_reducible refine (sameRej09 A4 A6 b c4 c6 _ w6 HR2.out HR4.out HBB.out HBM.out).mono ?_); rintro e w7 ⟨rfl, hb⟩; have HB7 := Lib.hid (HB6.out.trans (hb.mono HB6.out.size)); clear hb)
          | (go_at_call 9; (with_reducible refine (alive_any _ (HV.out _ HB7.out)).mono ?_); rintro e w8 ⟨rfl, hb⟩; have HB8 := Lib.hid (HB7.out.trans (hb.mono HB7.out.size)); clear hb))
        go_ret
        exact ⟨rfl, HB8.out⟩
end Go.Proofs.YtokdfdinnaghmaaDoor.Va
