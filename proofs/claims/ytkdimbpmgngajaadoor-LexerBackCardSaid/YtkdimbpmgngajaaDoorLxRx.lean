/- Walk of the reference: token. -/
import Derived.Test.YtkdimbpmgngajaaDoorLxRy
namespace Go.Proofs.YtkdimbpmgngajaaDoor.Lx
open Go Go.Lib Go.RowKit Go.Proofs.YtkdimbpmgngajaaDoor Go.Maps

theorem RfO.form {w w' : World} {s : ByteArray} {p : Nat} {res : Except Nat (Nat × Wd × Wd)} {e : Ending} (h : RfO w s p res e w') : ∃ (k n q m z : Int) (X : ByteArray), e = .returned (.tuple #[.agg #[.int .i64 k, .int .i64 n, .int .i64 q, .string X], .int .i64 m, .int .i64 z]) ∧ Below w.heap.size w w' ∧
    Hid (∀ w0 w'' : World, Below w0.heap.size w0 w'' → RfO w0 s p res (.returned (.tuple #[.agg #[.int .i64 k, .int .i64 n, .int .i64 q, .string X], .int .i64 m, .int .i64 z])) w'') := by
  cases res with
  | error n =>
    obtain ⟨rfl, hb⟩ := h
    exact ⟨0, 0, 0, p, n, ⟨#[]⟩, rfl, hb, Lib.hid fun _ _ h => ⟨rfl, h⟩⟩
  | ok y =>
    obtain ⟨k, x, r2⟩ := y
    obtain ⟨X, m, h1, h2, h3, rfl, hb⟩ := h
    exact ⟨k, numV k x, p, m, 0, X, rfl, hb, Lib.hid fun _ _ h => ⟨X, m, h1, h2, h3, rfl, h⟩⟩
set_option maxRecDepth 100000 in
set_option maxHeartbeats 16000000 in
theorem refToken_any (s : ByteArray) (w : World) (hs : s.size ≤ 65536) {p : Nat} {b : UInt8} {t : Wd} (hp : p < s.size) (hr : s.data.toList.drop p = b :: t) : Calls Tryd.prog 23 #[.string s, .int .i64 p] w (RfO w s p (tok (b :: t))) := by
  have hs9 : s.size ≤ maxLen := by unfold maxLen; omega
  obtain ⟨R, hR⟩ : ∃ R, w.heap.size = R := ⟨_, rfl⟩
  have hB0 : Below w.heap.size w (w.alloc (.cells #[.int .i64 0, .int .i64 0, .int .i64 0, .string ⟨#[]⟩] 30)) := below_one w _
  have hT0 : TkB (w.alloc (.cells #[.int .i64 0, .int .i64 0, .int .i64 0, .string ⟨#[]⟩] 30)) w.heap.size 0 0 0 ⟨#[]⟩ := TkB.new w 0 0 0 ⟨#[]⟩
  rw [hR] at hT0
  have HRR := Lib.hid hR
  have hp0 : (0 : Int) ≤ (p : Int) := by omega
  have hp' : (p : Int) < (s.size : Int) := by omega
  have HB0 := Lib.hid hB0
  have HT0 := Lib.hid hT0
  have hb : s[p] = b := by
    rw [drop_at hp] at hr
    exact (List.cons.inj hr).1
  have ht : s.data.toList.drop (p + 1) = t := by
    rw [drop_at hp] at hr
    exact (List.cons.inj hr).2
  have HLW := Lib.hid (fun W => lower_any s[p] W)
  have HDG := Lib.hid (fun W => digit_any s[p] W)
  have e34 : ((s[p].toNat : Int) == (34 : Int)) = (s[p] == 34) := beq_nat s[p] 34 (by decide)
  have HX1 := Lib.hid (fun W => refWord_any s W hs9 (Nat.le_of_lt hp) hr)
  have HX2 := Lib.hid (fun W => refNumber_any s W hs9 (Nat.le_of_lt hp) hr)
  have HX3 := Lib.hid (fun W => refText_any s W hs9 hp ht)
  have HX4 := Lib.hid (fun W => refSymbol_any s W hs hp hr)
  subst hb
  clear hB0 hT0 hs9 hr ht
  cases h1 : lowB s[p]
  · rw [h1] at HLW
    cases h2 : digB s[p]
    · rw [h2] at HDG
      cases h3 : (s[p] == 34)
      · rw [h3] at e34
        have HE := Lib.hid (tok_s (t := t) h1 h2 h3)
        clear h1 h2 h3
        go_enter Tryd.func23, Tryd.ntmps23
        go_wp2_with (first
          | (go_at_call 28; (with_reducible refine (HLW.out _).mono ?_); rintro e w1 ⟨rfl, rfl⟩)
          | (go_at_call 30; (with_reducible refine (HDG.out _).mono ?_); rintro e w1 ⟨rfl, rfl⟩)
          | (go_at_call 33; (with_reducible refine (HX4.out _).mono ?_); intro e w2 hf; obtain ⟨k, n, q, m, z, X, rfl, hb2, hF⟩ := hf.form; have HT2 := Lib.hid (HT0.out.below hb2); have HB2 := Lib.hid (HB0.out.trans (hb2.mono HB0.out.size)); clear hb2 hf; obtain ⟨⟨t0, t1, t2, t3⟩, u0, u1, u2, u3⟩ := HT2.out.cells))
        refine bodyPost_ret (v := .tuple #[.agg #[.int .i64 k, .int .i64 n, .int .i64 q, .string X], .int .i64 m, .int .i64 z]) (results_cell3 (p := 4) (u := 5) (t := 6) rfl _ _ R 30 #[.int .i64 k, .int .i64 n, .int .i64 q, .string X] (0, 0) _ rfl (tk_put HT2.out _ _ _ _) Tryd.underlying30 rfl rfl) rfl ?_
        rw [HE.out]
        exact hF.out _ _ (below_put HB2.out HRR.out _ _ _ _)
      · rw [h3] at e34
        have HE : Hid (tok (s[p] :: t) = tag 3 (qotT t)) := Lib.hid (by rw [eq_of_beq h3]; exact tok_q)
        clear h1 h2 h3
        go_enter Tryd.func23, Tryd.ntmps23
        go_wp2_with (first
          | (go_at_call 28; (with_reducible refine (HLW.out _).mono ?_); rintro e w1 ⟨rfl, rfl⟩)
          | (go_at_call 30; (with_reducible refine (HDG.out _).mono ?_); rintro e w1 ⟨rfl, rfl⟩)
          | (go_at_call 32; (with_reducible refine (HX3.out _).mono ?_); intro e w2 hf; obtain ⟨k, n, q, m, z, X, rfl, hb2, hF⟩ := hf.form; have HT2 := Lib.hid (HT0.out.below hb2); have HB2 := Lib.hid (HB0.out.trans (hb2.mono HB0.out.size)); clear hb2 hf; obtain ⟨⟨t0, t1, t2, t3⟩, u0, u1, u2, u3⟩ := HT2.out.cells))
        refine bodyPost_ret (v := .tuple #[.agg #[.int .i64 k, .int .i64 n, .int .i64 q, .string X], .int .i64 m, .int .i64 z]) (results_cell3 (p := 4) (u := 5) (t := 6) rfl _ _ R 30 #[.int .i64 k, .int .i64 n, .int .i64 q, .string X] (0, 0) _ rfl (tk_put HT2.out _ _ _ _) Tryd.underlying30 rfl rfl) rfl ?_
        rw [HE.out]
        exact hF.out _ _ (below_put HB2.out HRR.out _ _ _ _)
    · rw [h2] at HDG
      have HE := Lib.hid (tok_d (t := t) h1 h2)
      clear h1 h2 e34
      go_enter Tryd.func23, Tryd.ntmps23
      go_wp2_with (first
        | (go_at_call 28; (with_reducible refine (HLW.out _).mono ?_); rintro e w1 ⟨rfl, rfl⟩)
        | (go_at_call 30; (with_reducible refine (HDG.out _).mono ?_); rintro e w1 ⟨rfl, rfl⟩)
        | (go_at_call 31; (with_reducible refine (HX2.out _).mono ?_); intro e w2 hf; obtain ⟨k, n, q, m, z, X, rfl, hb2, hF⟩ := hf.form; have HT2 := Lib.hid (HT0.out.below hb2); have HB2 := Lib.hid (HB0.out.trans (hb2.mono HB0.out.size)); clear hb2 hf; obtain ⟨⟨t0, t1, t2, t3⟩, u0, u1, u2, u3⟩ := HT2.out.cells))
      refine bodyPost_ret (v := .tuple #[.agg #[.int .i64 k, .int .i64 n, .int .i64 q, .string X], .int .i64 m, .int .i64 z]) (results_cell3 (p := 4) (u := 5) (t := 6) rfl _ _ R 30 #[.int .i64 k, .int .i64 n, .int .i64 q, .string X] (0, 0) _ rfl (tk_put HT2.out _ _ _ _) Tryd.underlying30 rfl rfl) rfl ?_
      rw [HE.out]
      exact hF.out _ _ (below_put HB2.out HRR.out _ _ _ _)
  · rw [h1] at HLW
    have HE := Lib.hid (tok_w (t := t) h1)
    clear h1 e34
    go_enter Tryd.func23, Tryd.ntmps23
    go_wp2_with (first
      | (go_at_call 28; (with_reducible refine (HLW.out _).mono ?_); rintro e w1 ⟨rfl, rfl⟩)
      | (go_at_call 29; (with_reducible refine (HX1.out _).mono ?_); intro e w2 hf; obtain ⟨k, n, q, m, z, X, rfl, hb2, hF⟩ := hf.form; have HT2 := Lib.hid (HT0.out.below hb2); have HB2 := Lib.hid (HB0.out.trans (hb2.mono HB0.out.size)); clear hb2 hf; obtain ⟨⟨t0, t1, t2, t3⟩, u0, u1, u2, u3⟩ := HT2.out.cells))
    refine bodyPost_ret (v := .tuple #[.agg #[.int .i64 k, .int .i64 n, .int .i64 q, .string X], .int .i64 m, .int .i64 z]) (results_cell3 (p := 4) (u := 5) (t := 6) rfl _ _ R 30 #[.int .i64 k, .int .i64 n, .int .i64 q, .string X] (0, 0) _ rfl (tk_put HT2.out _ _ _ _) Tryd.underlying30 rfl rfl) rfl ?_
    rw [HE.out]
    exact hF.out _ _ (below_put HB2.out HRR.out _ _ _ _)
end Go.Proofs.YtkdimbpmgngajaaDoor.Lx
