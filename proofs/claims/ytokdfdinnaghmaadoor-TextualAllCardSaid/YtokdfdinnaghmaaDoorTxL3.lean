/- Walk: the law on the way back. -/
import Derived.Test.YtokdfdinnaghmaaDoorTxL1
import Derived.Test.YtokdfdinnaghmaaDoorTxBm
import Derived.Deep.Cut
import Derived.Deep.CutRange
namespace Go.Proofs.YtokdfdinnaghmaaDoor.Tx
open Go Go.Lib Go.RowKit Go.Proofs.YtokdfdinnaghmaaDoor
set_option maxHeartbeats 1000000 in
theorem eqRec_diff (r q : Rc) (h : r ≠ q) (w : World) : (binOp .eql 23 (.agg r.cells) (.agg q.cells)).run Tryd.prog w = .ok (.bool false) w := by
  obtain ⟨s0, s1, s2, sa, sb, s5, s6, s7, s8, b9, s10, b11⟩ := r
  obtain ⟨t0, t1, t2, ta, tb, t5, t6, t7, t8, d9, t10, d11⟩ := q
  have u3 := Tryd.underlying3
  have a3 := Tryd.isAgg3
  have z3 := Tryd.sizeOf3
  have u4 := Tryd.underlying4
  have a4 := Tryd.isAgg4
  have z4 := Tryd.sizeOf4
  have u9 := Tryd.underlying9
  have a9 := Tryd.isAgg9
  have z9 := Tryd.sizeOf9
  have hS : Tryd.prog.underlying 23 = some (.struct (Tryd.prog.fieldsOf 23)) := by kernel_rfl
  have hp : Tryd.prog.stoodInHeld 23 = false := by kernel_rfl
  have HH := Lib.hid h
  clear h
  unfold Rc.cells
  rw [run_eql_struct, show (10000 : Nat) = 9999 + 1 from rfl, run_equalIn_agg w 9999 23 _ _ hS hp]
  simp only [Program.fieldsOf, Tryd.underlying23]
  go_simp
  intro e0 e1 e2 e3 e4 e5 e6 e7 e8 e9 e10 e11
  rw [ByteArray.toList_eq, ByteArray.toList_eq] at e3 e4
  exact HH.out (by rw [e0, e1, e2, ba_eq e3, ba_eq e4, e5, e6, e7, e8, e9, e10, e11])
set_option maxHeartbeats 1000000 in
theorem neqRec_same (r : Rc) (w : World) : (binOp .neq 23 (.agg r.cells) (.agg r.cells)).run Tryd.prog w = .ok (.bool false) w := by
  have u3 := Tryd.underlying3
  have a3 := Tryd.isAgg3
  have z3 := Tryd.sizeOf3
  have u4 := Tryd.underlying4
  have a4 := Tryd.isAgg4
  have z4 := Tryd.sizeOf4
  have u9 := Tryd.underlying9
  have a9 := Tryd.isAgg9
  have z9 := Tryd.sizeOf9
  have hS : Tryd.prog.underlying 23 = some (.struct (Tryd.prog.fieldsOf 23)) := by kernel_rfl
  have hp : Tryd.prog.stoodInHeld 23 = false := by kernel_rfl
  unfold Rc.cells
  rw [run_neq_struct, show (10000 : Nat) = 9999 + 1 from rfl, run_equalIn_agg w 9999 23 _ _ hS hp]
  simp only [Program.fieldsOf, Tryd.underlying23]
  go_simp
theorem enc_line {r : Rc} (h : chkR r = 0) : encT r = S (lineR r) := by unfold encT; rw [if_pos h]
theorem line_sz {r : Rc} (h : chkR r = 0) : (S (lineR r)).size ≤ 900000 := by
  have h1 := words_len (ln_ok h)
  have h2 := joinW_len 32 (wordsL (lnR r)) 100 h1.1
  have h3 := h1.2
  rw [S_size]
  have : (lineR r).length ≤ (wordsL (lnR r)).length * 101 := h2
  omega
set_option maxRecDepth 100000 in
set_option maxHeartbeats 16000000 in
theorem walkTextualBack (r q : Rc) (ln : ByteArray) (w : World) (_hr : r.Nums) (_hq : q.Nums) (_hs : ln.size ≤ maxLen) (hE : Env w) : Calls Tryd.prog 6 #[.agg r.cells, .agg q.cells, .string ln] w fun e w' => e = .returned (.bool true) ∧ Below w.heap.size w w' := by
  have HV : Hid (∀ W, Below w.heap.size w W → Env W) := Lib.hid fun W h => hE.below h
  obtain ⟨L, hL, hL0, hx, hLs⟩ := rec_world w r
  obtain ⟨K, hK, hK0, hy, hKs⟩ := rec_world L q
  have HB0 := Lib.hid (hL0.trans (hK0.mono hL0.size))
  have HR := Lib.hid (hx.below hK0 (by omega))
  have HQ := Lib.hid hy
  obtain ⟨k0, k1, k2, k3, k4, k5, k6, k7, k8, k9, k10, k11⟩ := HR.out.cells
  obtain ⟨m0, m1, m2, m3, m4, m5, m6, m7, m8, m9, m10, m11⟩ := HQ.out.cells
  clear hE hx hy hL0 hK0 hLs hKs _hr _hq _hs
  cases h1 : shB r with
  | false =>
    have hsh := short_is h1
    obtain ⟨s0, s1, s2, sa, sb, s5, s6, s7, s8, b9, s10, b11⟩ := r
    obtain ⟨t0, t1, t2, ta, tb, t5, t6, t7, t8, d9, t10, d11⟩ := q
    simp only [Rc.cells] at hL hK hsh ⊢
    simp only at k0 k1 k2 k3 k4 k5 k6 k7 k8 k9 k10 k11 m0 m1 m2 m3 m4 m5 m6 m7 m8 m9 m10 m11
    have HS1 := Lib.hid hsh
    clear hsh h1
    go_enter Tryd.func6, Tryd.ntmps6
    go_wp2_with (first | (go_at_call 8; (with_reducible refine (HS1.out _).mono ?_); rintro e w1 ⟨rfl, hb⟩; have HB1 := Lib.hid (HB0.out.trans (hb.mono HB0.out.size)); have HR := Lib.hid (HR.out.below hb (RcB.lt HR.out)); have HQ := Lib.hid (HQ.out.below hb (RcB.lt HQ.out)); clear hb; clear k0 k1 k2 k3 k4 k5 k6 k7 k8 k9 k10 k11 m0 m1 m2 m3 m4 m5 m6 m7 m8 m9 m10 m11; obtain ⟨k0, k1, k2, k3, k4, k5, k6, k7, k8, k9, k10, k11⟩ := HR.out.cells; obtain ⟨m0, m1, m2, m3, m4, m5, m6, m7, m8, m9, m10, m11⟩ := HQ.out.cells) | (go_at_call 9; (with_reducible refine (alive_any _ (HV.out _ HB1.out)).mono ?_); rintro e w9 ⟨rfl, hb⟩; have HB9 := Lib.hid (HB1.out.trans (hb.mono HB1.out.size)); clear hb))
    go_ret
    exact ⟨rfl, HB9.out⟩
  | true =>
    cases h2 : shB q with
    | false =>
      have hsh := short_is h1
      have hsh2 := short_is h2
      obtain ⟨s0, s1, s2, sa, sb, s5, s6, s7, s8, b9, s10, b11⟩ := r
      obtain ⟨t0, t1, t2, ta, tb, t5, t6, t7, t8, d9, t10, d11⟩ := q
      simp only [Rc.cells] at hL hK hsh hsh2 ⊢
      simp only at k0 k1 k2 k3 k4 k5 k6 k7 k8 k9 k10 k11 m0 m1 m2 m3 m4 m5 m6 m7 m8 m9 m10 m11
      have HS1 := Lib.hid hsh; have HS2 := Lib.hid hsh2
      clear hsh hsh2 h1 h2
      go_enter Tryd.func6, Tryd.ntmps6
      go_wp2_with (first | (go_at_call 8; (with_reducible refine (HS1.out _).mono ?_); rintro e w1 ⟨rfl, hb⟩; have HB1 := Lib.hid (HB0.out.trans (hb.mono HB0.out.size)); have HR := Lib.hid (HR.out.below hb (RcB.lt HR.out)); have HQ := Lib.hid (HQ.out.below hb (RcB.lt HQ.out)); clear hb; clear k0 k1 k2 k3 k4 k5 k6 k7 k8 k9 k10 k11 m0 m1 m2 m3 m4 m5 m6 m7 m8 m9 m10 m11; obtain ⟨k0, k1, k2, k3, k4, k5, k6, k7, k8, k9, k10, k11⟩ := HR.out.cells; obtain ⟨m0, m1, m2, m3, m4, m5, m6, m7, m8, m9, m10, m11⟩ := HQ.out.cells) | (go_at_call 8; (with_reducible refine (HS2.out _).mono ?_); rintro e w2 ⟨rfl, hb⟩; have HB2 := Lib.hid (HB1.out.trans (hb.mono HB1.out.size)); have HR := Lib.hid (HR.out.below hb (RcB.lt HR.out)); have HQ := Lib.hid (HQ.out.below hb (RcB.lt HQ.out)); clear hb; clear k0 k1 k2 k3 k4 k5 k6 k7 k8 k9 k10 k11 m0 m1 m2 m3 m4 m5 m6 m7 m8 m9 m10 m11; obtain ⟨k0, k1, k2, k3, k4, k5, k6, k7, k8, k9, k10, k11⟩ := HR.out.cells; obtain ⟨m0, m1, m2, m3, m4, m5, m6, m7, m8, m9, m10, m11⟩ := HQ.out.cells) | (go_at_call 9; (with_reducible refine (alive_any _ (HV.out _ HB2.out)).mono ?_); rintro e w9 ⟨rfl, hb⟩; have HB9 := Lib.hid (HB2.out.trans (hb.mono HB2.out.size)); clear hb))
      go_ret
      exact ⟨rfl, HB9.out⟩
    | true =>
      obtain ⟨za, zb⟩ := sh_sz h1
      obtain ⟨ya, yb⟩ := sh_sz h2
      by_cases hl : 500 < ln.size
      · have d0 : decide ((500 : Int) < (ln.size : Int)) = true := decide_eq_true (by omega)
        have hsh := short_is h1
        have hsh2 := short_is h2
        obtain ⟨s0, s1, s2, sa, sb, s5, s6, s7, s8, b9, s10, b11⟩ := r
        obtain ⟨t0, t1, t2, ta, tb, t5, t6, t7, t8, d9, t10, d11⟩ := q
        simp only [Rc.cells] at hL hK hsh hsh2 ⊢
        simp only at k0 k1 k2 k3 k4 k5 k6 k7 k8 k9 k10 k11 m0 m1 m2 m3 m4 m5 m6 m7 m8 m9 m10 m11
        have HS1 := Lib.hid hsh; have HS2 := Lib.hid hsh2
        clear hsh hsh2 h1 h2 hl za zb ya yb
        go_enter Tryd.func6, Tryd.ntmps6
        go_wp2_with (first | (go_at_call 8; (with_reducible refine (HS1.out _).mono ?_); rintro e w1 ⟨rfl, hb⟩; have HB1 := Lib.hid (HB0.out.trans (hb.mono HB0.out.size)); have HR := Lib.hid (HR.out.below hb (RcB.lt HR.out)); have HQ := Lib.hid (HQ.out.below hb (RcB.lt HQ.out)); clear hb; clear k0 k1 k2 k3 k4 k5 k6 k7 k8 k9 k10 k11 m0 m1 m2 m3 m4 m5 m6 m7 m8 m9 m10 m11; obtain ⟨k0, k1, k2, k3, k4, k5, k6, k7, k8, k9, k10, k11⟩ := HR.out.cells; obtain ⟨m0, m1, m2, m3, m4, m5, m6, m7, m8, m9, m10, m11⟩ := HQ.out.cells) | (go_at_call 8; (with_reducible refine (HS2.out _).mono ?_); rintro e w2 ⟨rfl, hb⟩; have HB2 := Lib.hid (HB1.out.trans (hb.mono HB1.out.size)); have HR := Lib.hid (HR.out.below hb (RcB.lt HR.out)); have HQ := Lib.hid (HQ.out.below hb (RcB.lt HQ.out)); clear hb; clear k0 k1 k2 k3 k4 k5 k6 k7 k8 k9 k10 k11 m0 m1 m2 m3 m4 m5 m6 m7 m8 m9 m10 m11; obtain ⟨k0, k1, k2, k3, k4, k5, k6, k7, k8, k9, k10, k11⟩ := HR.out.cells; obtain ⟨m0, m1, m2, m3, m4, m5, m6, m7, m8, m9, m10, m11⟩ := HQ.out.cells) | (go_at_call 9; (with_reducible refine (alive_any _ (HV.out _ HB2.out)).mono ?_); rintro e w9 ⟨rfl, hb⟩; have HB9 := Lib.hid (HB2.out.trans (hb.mono HB2.out.size)); clear hb))
        go_ret
        exact ⟨rfl, HB9.out⟩
      · have d0 : decide ((500 : Int) < (ln.size : Int)) = false := decide_eq_false (by omega)
        have hsh := short_is h1
        have hsh2 := short_is h2
        obtain ⟨s, hes⟩ : ∃ s, encT r = s := ⟨_, rfl⟩
        obtain ⟨t, het⟩ : ∃ t, encT q = t := ⟨_, rfl⟩
        obtain ⟨x, hx⟩ : ∃ x, chkR r = x := ⟨_, rfl⟩
        obtain ⟨y, hy⟩ : ∃ y, chkR q = y := ⟨_, rfl⟩
        have e1 := enc_gives hes hx za zb
        have e2 := enc_gives het hy ya yb
        obtain ⟨⟨p, z⟩, hd⟩ : ∃ d, decT ln.data.toList = d := ⟨_, rfl⟩
        have HD := Lib.hid (dec_gives hd (by omega))
        have HZ : Hid (z = 0 → ∀ W, Env W → Calls Tryd.prog 10 #[.agg p.cells] W fun e w' => e = .returned (.tuple #[.string ln, .int .i64 0]) ∧ Below W.heap.size W w') := Lib.hid (fun hz => by
          have h9 := dec_zero (l := ln.data.toList) (by rw [hd]; exact hz)
          rw [hd] at h9
          have hs : p.Small := (chk_ok h9.1).s
          exact enc_gives (by rw [enc_line h9.1, h9.2, S_of]) h9.1 (by have := hs.la; unfold maxLen; omega) (by have := hs.lb; unfold maxLen; omega))
        -- what the first half asks
        have HX : Hid (x = 0 → ∀ W, Env W → Calls Tryd.prog 12 #[.string s] W fun e w' => e = .returned (.tuple #[.agg r.cells, .int .i64 0]) ∧ Below W.heap.size W w') := Lib.hid (fun hz => by
          have hc : chkR r = 0 := hx.trans hz
          have es : s = S (lineR r) := by rw [← hes, enc_line hc]
          exact dec_gives (by rw [es, S_data]; exact dec_back hc) (by rw [es]; exact line_sz hc))
        have HEQ : Hid (x = 0 → y = 0 → (r = q ∧ s = t) ∨ (r ≠ q ∧ s.data.toList ≠ t.data.toList)) := Lib.hid (fun hz1 hz2 => by
          have hc1 : chkR r = 0 := hx.trans hz1
          have hc2 : chkR q = 0 := hy.trans hz2
          have es : s = S (lineR r) := by rw [← hes, enc_line hc1]
          have et : t = S (lineR q) := by rw [← het, enc_line hc2]
          by_cases hrq : r = q
          · exact .inl ⟨hrq, by rw [es, et, hrq]⟩
          · exact .inr ⟨hrq, fun e => hrq (line_inj hc1 hc2 (by rw [es, et, S_data, S_data] at e; exact e))⟩)
        have HNS := Lib.hid (neqRec_same r)
        have HES := Lib.hid (eqRec_same r)
        have HED := Lib.hid (eqRec_diff r q)
        clear hes het hx hy hd h1 h2 hl za zb ya yb
        obtain ⟨s0, s1, s2, sa, sb, s5, s6, s7, s8, b9, s10, b11⟩ := r
        obtain ⟨t0, t1, t2, ta, tb, t5, t6, t7, t8, d9, t10, d11⟩ := q
        obtain ⟨a0, a1, a2, aa, ab, a5, a6, a7, a8, c9, a10, c11⟩ := p
        simp only [Rc.cells] at hL hK hsh hsh2 e1 e2 HD HZ HX HNS HES HED ⊢
        simp only at k0 k1 k2 k3 k4 k5 k6 k7 k8 k9 k10 k11 m0 m1 m2 m3 m4 m5 m6 m7 m8 m9 m10 m11
        have HS1 := Lib.hid hsh; have HS2 := Lib.hid hsh2; have H1 := Lib.hid e1; have H2 := Lib.hid e2
        clear hsh hsh2 e1 e2
        go_enter Tryd.func6, Tryd.ntmps6
        go_upto_if 42 with (first | (go_at_call 8; (with_reducible refine (HS1.out _).mono ?_); rintro e w1 ⟨rfl, hb⟩; have HB1 := Lib.hid (HB0.out.trans (hb.mono HB0.out.size)); have HR := Lib.hid (HR.out.below hb (RcB.lt HR.out)); have HQ := Lib.hid (HQ.out.below hb (RcB.lt HQ.out)); clear hb; clear k0 k1 k2 k3 k4 k5 k6 k7 k8 k9 k10 k11 m0 m1 m2 m3 m4 m5 m6 m7 m8 m9 m10 m11; obtain ⟨k0, k1, k2, k3, k4, k5, k6, k7, k8, k9, k10, k11⟩ := HR.out.cells; obtain ⟨m0, m1, m2, m3, m4, m5, m6, m7, m8, m9, m10, m11⟩ := HQ.out.cells) | (go_at_call 8; (with_reducible refine (HS2.out _).mono ?_); rintro e w2 ⟨rfl, hb⟩; have HB2 := Lib.hid (HB1.out.trans (hb.mono HB1.out.size)); have HR := Lib.hid (HR.out.below hb (RcB.lt HR.out)); have HQ := Lib.hid (HQ.out.below hb (RcB.lt HQ.out)); clear hb; clear k0 k1 k2 k3 k4 k5 k6 k7 k8 k9 k10 k11 m0 m1 m2 m3 m4 m5 m6 m7 m8 m9 m10 m11; obtain ⟨k0, k1, k2, k3, k4, k5, k6, k7, k8, k9, k10, k11⟩ := HR.out.cells; obtain ⟨m0, m1, m2, m3, m4, m5, m6, m7, m8, m9, m10, m11⟩ := HQ.out.cells) | (go_at_call 10; (with_reducible refine (H1.out _ (HV.out _ HB2.out)).mono ?_); rintro e w3 ⟨rfl, hb⟩; have HB3 := Lib.hid (HB2.out.trans (hb.mono HB2.out.size)); have HR := Lib.hid (HR.out.below hb (RcB.lt HR.out)); have HQ := Lib.hid (HQ.out.below hb (RcB.lt HQ.out)); clear hb; clear k0 k1 k2 k3 k4 k5 k6 k7 k8 k9 k10 k11 m0 m1 m2 m3 m4 m5 m6 m7 m8 m9 m10 m11; obtain ⟨k0, k1, k2, k3, k4, k5, k6, k7, k8, k9, k10, k11⟩ := HR.out.cells; obtain ⟨m0, m1, m2, m3, m4, m5, m6, m7, m8, m9, m10, m11⟩ := HQ.out.cells) | (go_at_call 10; (with_reducible refine (H2.out _ (HV.out _ HB3.out)).mono ?_); rintro e w4 ⟨rfl, hb⟩; have HB4 := Lib.hid (HB3.out.trans (hb.mono HB3.out.size)); have HR := Lib.hid (HR.out.below hb (RcB.lt HR.out)); have HQ := Lib.hid (HQ.out.below hb (RcB.lt HQ.out)); clear hb; clear k0 k1 k2 k3 k4 k5 k6 k7 k8 k9 k10 k11 m0 m1 m2 m3 m4 m5 m6 m7 m8 m9 m10 m11; obtain ⟨k0, k1, k2, k3, k4, k5, k6, k7, k8, k9, k10, k11⟩ := HR.out.cells; obtain ⟨m0, m1, m2, m3, m4, m5, m6, m7, m8, m9, m10, m11⟩ := HQ.out.cells))
        go_cut [] from 11 (fun wx => Below w.heap.size w wx)
        case first =>
          by_cases hx0 : x = 0
          · subst hx0
            have HX2 := Lib.hid (HX.out rfl)
            clear HX
            have HNS := HNS.out
            by_cases hy0 : y = 0
            · subst hy0
              rcases HEQ.out rfl rfl with ⟨he, rfl⟩ | ⟨he, hne⟩
              · obtain ⟨rfl, rfl, rfl, rfl, rfl, rfl, rfl, rfl, rfl, rfl, rfl, rfl⟩ := Rc.mk.inj he
                have HES := HES.out
                clear he
                go_wp2_with (first | (go_at_call 12; (with_reducible refine (HX2.out _ (HV.out _ HB4.out)).mono ?_); rintro e w5 ⟨rfl, hb⟩; have hx5 := (show RcB (w5.alloc (.cells (Rc.cells ⟨s0, s1, s2, sa, sb, s5, s6, s7, s8, b9, s10, b11⟩) 23)) w5.heap.size ⟨s0, s1, s2, sa, sb, s5, s6, s7, s8, b9, s10, b11⟩ from new_at _ _); have HB5 := Lib.hid ((HB4.out.trans (hb.mono HB4.out.size)).alloc (Nat.le_trans HB4.out.size hb.size) (.cells (Rc.cells ⟨s0, s1, s2, sa, sb, s5, s6, s7, s8, b9, s10, b11⟩) 23)); have HR := Lib.hid ((HR.out.below hb (RcB.lt HR.out)).below (below_lit w5 (.cells (Rc.cells ⟨s0, s1, s2, sa, sb, s5, s6, s7, s8, b9, s10, b11⟩) 23)) (RcB.lt (HR.out.below hb (RcB.lt HR.out)))); have HQ := Lib.hid ((HQ.out.below hb (RcB.lt HQ.out)).below (below_lit w5 (.cells (Rc.cells ⟨s0, s1, s2, sa, sb, s5, s6, s7, s8, b9, s10, b11⟩) 23)) (RcB.lt (HQ.out.below hb (RcB.lt HQ.out)))); clear hb; simp only [Rc.cells] at hx5 HB5 HR HQ; clear k0 k1 k2 k3 k4 k5 k6 k7 k8 k9 k10 k11 m0 m1 m2 m3 m4 m5 m6 m7 m8 m9 m10 m11; obtain ⟨k0, k1, k2, k3, k4, k5, k6, k7, k8, k9, k10, k11⟩ := HR.out.cells; obtain ⟨m0, m1, m2, m3, m4, m5, m6, m7, m8, m9, m10, m11⟩ := HQ.out.cells; obtain ⟨n0, n1, n2, n3, n4, n5, n6, n7, n8, n9, n10, n11⟩ := hx5.cells; clear hx5))
                go_meet
                case rel => exact HB5.out
              · have HED := HED.out he
                have n1 := str_ne1 hne; have n2 := str_ne2 hne; have n3 := str_ne3 hne
                clear he hne
                go_wp2_with (first | (go_at_call 12; (with_reducible refine (HX2.out _ (HV.out _ HB4.out)).mono ?_); rintro e w5 ⟨rfl, hb⟩; have hx5 := (show RcB (w5.alloc (.cells (Rc.cells ⟨s0, s1, s2, sa, sb, s5, s6, s7, s8, b9, s10, b11⟩) 23)) w5.heap.size ⟨s0, s1, s2, sa, sb, s5, s6, s7, s8, b9, s10, b11⟩ from new_at _ _); have HB5 := Lib.hid ((HB4.out.trans (hb.mono HB4.out.size)).alloc (Nat.le_trans HB4.out.size hb.size) (.cells (Rc.cells ⟨s0, s1, s2, sa, sb, s5, s6, s7, s8, b9, s10, b11⟩) 23)); have HR := Lib.hid ((HR.out.below hb (RcB.lt HR.out)).below (below_lit w5 (.cells (Rc.cells ⟨s0, s1, s2, sa, sb, s5, s6, s7, s8, b9, s10, b11⟩) 23)) (RcB.lt (HR.out.below hb (RcB.lt HR.out)))); have HQ := Lib.hid ((HQ.out.below hb (RcB.lt HQ.out)).below (below_lit w5 (.cells (Rc.cells ⟨s0, s1, s2, sa, sb, s5, s6, s7, s8, b9, s10, b11⟩) 23)) (RcB.lt (HQ.out.below hb (RcB.lt HQ.out)))); clear hb; simp only [Rc.cells] at hx5 HB5 HR HQ; clear k0 k1 k2 k3 k4 k5 k6 k7 k8 k9 k10 k11 m0 m1 m2 m3 m4 m5 m6 m7 m8 m9 m10 m11; obtain ⟨k0, k1, k2, k3, k4, k5, k6, k7, k8, k9, k10, k11⟩ := HR.out.cells; obtain ⟨m0, m1, m2, m3, m4, m5, m6, m7, m8, m9, m10, m11⟩ := HQ.out.cells; obtain ⟨n0, n1, n2, n3, n4, n5, n6, n7, n8, n9, n10, n11⟩ := hx5.cells; clear hx5))
                go_meet
                case rel => exact HB5.out
            · have hyb : (y == 0) = false := by simp [hy0]
              clear hy0
              go_wp2_with (first | (go_at_call 12; (with_reducible refine (HX2.out _ (HV.out _ HB4.out)).mono ?_); rintro e w5 ⟨rfl, hb⟩; have hx5 := (show RcB (w5.alloc (.cells (Rc.cells ⟨s0, s1, s2, sa, sb, s5, s6, s7, s8, b9, s10, b11⟩) 23)) w5.heap.size ⟨s0, s1, s2, sa, sb, s5, s6, s7, s8, b9, s10, b11⟩ from new_at _ _); have HB5 := Lib.hid ((HB4.out.trans (hb.mono HB4.out.size)).alloc (Nat.le_trans HB4.out.size hb.size) (.cells (Rc.cells ⟨s0, s1, s2, sa, sb, s5, s6, s7, s8, b9, s10, b11⟩) 23)); have HR := Lib.hid ((HR.out.below hb (RcB.lt HR.out)).below (below_lit w5 (.cells (Rc.cells ⟨s0, s1, s2, sa, sb, s5, s6, s7, s8, b9, s10, b11⟩) 23)) (RcB.lt (HR.out.below hb (RcB.lt HR.out)))); have HQ := Lib.hid ((HQ.out.below hb (RcB.lt HQ.out)).below (below_lit w5 (.cells (Rc.cells ⟨s0, s1, s2, sa, sb, s5, s6, s7, s8, b9, s10, b11⟩) 23)) (RcB.lt (HQ.out.below hb (RcB.lt HQ.out)))); clear hb; simp only [Rc.cells] at hx5 HB5 HR HQ; clear k0 k1 k2 k3 k4 k5 k6 k7 k8 k9 k10 k11 m0 m1 m2 m3 m4 m5 m6 m7 m8 m9 m10 m11; obtain ⟨k0, k1, k2, k3, k4, k5, k6, k7, k8, k9, k10, k11⟩ := HR.out.cells; obtain ⟨m0, m1, m2, m3, m4, m5, m6, m7, m8, m9, m10, m11⟩ := HQ.out.cells; obtain ⟨n0, n1, n2, n3, n4, n5, n6, n7, n8, n9, n10, n11⟩ := hx5.cells; clear hx5))
              go_meet
              case rel => exact HB5.out
          · have hxb : (x == 0) = false := by simp [hx0]
            clear hx0
            go_wp2_with fail
            go_meet
            case rel => exact HB4.out
        case rest =>
          have HB6 := Lib.hid hcut
          clear hcut
          by_cases hz0 : z = 0
          · subst hz0
            have HZ2 := Lib.hid (HZ.out rfl)
            clear HZ
            go_wp2_with (first
              | (go_at_call 12; (with_reducible refine (HD.out _ (HV.out _ HB6.out)).mono ?_); rintro e w7 ⟨rfl, hb⟩; have hx7 := (show RcB (w7.alloc (.cells (Rc.cells ⟨a0, a1, a2, aa, ab, a5, a6, a7, a8, c9, a10, c11⟩) 23)) w7.heap.size ⟨a0, a1, a2, aa, ab, a5, a6, a7, a8, c9, a10, c11⟩ from new_at _ _); have HB7 := Lib.hid ((HB6.out.trans (hb.mono HB6.out.size)).alloc (Nat.le_trans HB6.out.size hb.size) (.cells (Rc.cells ⟨a0, a1, a2, aa, ab, a5, a6, a7, a8, c9, a10, c11⟩) 23)); clear k0 k1 k2 k3 k4 k5 k6 k7 k8 k9 k10 k11 m0 m1 m2 m3 m4 m5 m6 m7 m8 m9 m10 m11; simp only [Rc.cells] at hx7 HB7; obtain ⟨k0, k1, k2, k3, k4, k5, k6, k7, k8, k9, k10, k11⟩ := hx7.cells; clear hb hx7)
              | (go_at_call 10; (with_reducible refine (HZ2.out _ (HV.out _ HB7.out)).mono ?_); rintro e w8 ⟨rfl, hb⟩; have HB8 := Lib.hid (HB7.out.trans (hb.mono HB7.out.size)); clear hb)
              | (go_at_call 9; (with_reducible refine (alive_any _ (HV.out _ HB8.out)).mono ?_); rintro e w9 ⟨rfl, hb⟩; have HB9 := Lib.hid (HB8.out.trans (hb.mono HB8.out.size)); clear hb))
            go_ret
            exact ⟨rfl, HB9.out⟩
          · have hzb : (z != 0) = true := by simp [hz0]
            clear hz0
            go_wp2_with (first
              | (go_at_call 12; (with_reducible refine (HD.out _ (HV.out _ HB6.out)).mono ?_); rintro e w7 ⟨rfl, hb⟩; have HB7 := Lib.hid ((HB6.out.trans (hb.mono HB6.out.size)).alloc (Nat.le_trans HB6.out.size hb.size) (.cells (Rc.cells ⟨a0, a1, a2, aa, ab, a5, a6, a7, a8, c9, a10, c11⟩) 23)); simp only [Rc.cells] at HB7; clear hb)
              | (go_at_call 9; (with_reducible refine (alive_any _ (HV.out _ HB7.out)).mono ?_); rintro e w9 ⟨rfl, hb⟩; have HB9 := Lib.hid (HB7.out.trans (hb.mono HB7.out.size)); clear hb))
            go_ret
            exact ⟨rfl, HB9.out⟩
end Go.Proofs.YtokdfdinnaghmaaDoor.Tx
