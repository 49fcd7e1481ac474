/- Walk of the law DedupOnce. -/
import Derived.Test.YtgobbeommjjlfaaDdL5
import Derived.Test.YtgobbeommjjlfaaDdF7
import Derived.Deep.CutRange
import Derived.Deep.Cut
namespace Go.Proofs.Ytgobbeommjjlfaa
open Go.RowKit

theorem wpList_guard {P : Program} {ops : Array Oper} {Q : Exit → Act → World → Prop} {a : Act} {w : World} {rest : List Oper} {o : Oper} (hw : Region.wanted o (yielded ops a.tmps) = true)
    (h : wpList P ops Q ({ o with guard := none } :: rest) a w) : wpList P ops Q (o :: rest) a w := by
  unfold wpList at h ⊢
  rw [if_pos hw]
  rw [if_pos (show Region.wanted { o with guard := none } (yielded ops a.tmps) = true from rfl)] at h
  cases o
  exact h
theorem own_lit12 (w : World) (e : TypeId) : (w.alloc (.cells #[] e)).ownsRow w.heap.size e 12 (.slice (some ⟨w.heap.size, 0, none⟩) 0 0) 0 [] :=
  ⟨rfl, .inr ⟨w.heap.size, 0, #[], rfl, Nat.le_refl _, heap_alloc_new _ _, by omega, by decide, rfl, rfl⟩⟩
theorem rec_none {w : World} {A : Option Addr} {D : List Rc} {m : Nat} (h : Va.RecR w A D) (hm : D.length = m) : A = none → m = 0 := fun hA => by
  rcases Nat.eq_zero_or_pos m with h0 | h0
  · exact h0
  · obtain ⟨b, o, e, _⟩ := h 0 (by omega)
    rw [hA] at e; cases e
theorem rec_cells {w : World} {A : Option Addr} {D : List Rc} (h : Va.RecR w A D) : ∀ ad, A = some ad → ∀ j u, (Va.recl D)[j]? = some u → w.cell? (ad.add j) = some u := fun ad hA j u hj => by
  have hlt : j < D.length * 12 := by rw [← Va.recl_len]; exact (List.getElem?_eq_some_iff.1 hj).1
  obtain ⟨b, o, e, _, hc⟩ := h (j / 12) (by omega)
  rw [hA] at e
  injection e with e
  subst e
  have h1 := hc (j % 12) (by omega)
  have h2 := Va.recl_at (l := D) (k := j / 12) (by omega) (j % 12) (by omega)
  rw [show j / 12 * 12 + j % 12 = j by omega] at h2
  rw [h2] at hj
  rw [hj] at h1
  rw [add_none]
  rw [show o + j / 12 * 12 + j % 12 = o + j by omega] at h1
  exact h1
theorem rec_own2 {w : World} {base n : Nat} {v : Value} {l : List Rc} (hv : w.ownsRow base 40 12 v n (Va.recl l)) (hn : l.length = n) : ∃ A c, v = .slice A n c ∧ n ≤ c ∧ c ≤ maxLen ∧ Va.RecR w A l ∧ (∀ a, A = some a → a.block < w.heap.size) := by
  obtain ⟨A3, c3, rfl, g1, g2, g3, -⟩ := Va.rec_own hv hn
  refine ⟨A3, c3, rfl, g1, g2, g3, fun a ha => ?_⟩
  subst ha
  rcases hv.2 with ⟨h, _⟩ | ⟨g, cap, cur, hq, _, hg, _⟩
  · cases h
  · injection hq with h _ _
    injection h with h
    subst h
    exact (Array.getElem?_eq_some_iff.1 hg).1
theorem rc_at2 {w : World} {b o : Nat} {P : List Rc} (h : Va.RecR w (some ⟨b, o, none⟩) P) {k : Nat} (hk : k < P.length) : w.cell? ⟨b, o + k * 12, none⟩ = some (.int .i64 (P.getD k Va.rc0).s0) ∧ w.cell? ⟨b, o + k * 12 + 1, none⟩ = some (.int .i64 (P.getD k Va.rc0).s1) := by
  obtain ⟨b', o', e, e0, e1⟩ := rc_at h hk
  injection e with e
  injection e with e2 e3 e4
  subst e2 e3
  exact ⟨e0, e1⟩
theorem ag_zero {l : List Rg} {D : List Rc} {s x : Int} : agN l D s x 0 = (hasL l s x || !idB s x) := by unfold agN agI; simp
theorem id_low {s x : Int} (h : s < 1 ∨ 99 < s ∨ x < 1 ∨ 999999999 < x) : idB s x = false := by
  rw [← Bool.not_eq_true, idB_iff]; omega
set_option maxRecDepth 100000 in
set_option maxHeartbeats 16000000 in
theorem walkDedupOnce (A : Option Addr) (n c : Nat) (l : List Rg) (B : Option Addr) (m d : Nat) (D1 : List Rc) (C : Option Addr) (m2 d2 : Nat) (D2 : List Rc) (w : World) (hA : RgR w A l) (hn : l.length = n) (hc : n ≤ c) (hcm : c ≤ maxLen) (h0 : A = none → n = 0) (hB : Va.RecR w B D1) (hm : D1.length = m) (hd : m ≤ d) (hdm : d ≤ maxLen) (hBl : ∀ a, B = some a → a.block < w.heap.size) (hC : Va.RecR w C D2) (hm2 : D2.length = m2) (hd2 : m2 ≤ d2) (hdm2 : d2 ≤ maxLen) (hCl : ∀ a, C = some a → a.block < w.heap.size) :
    Calls Try.prog 7 #[.slice A n c, .slice B m d, .slice C m2 d2] w fun e w' => e = .returned (.bool true) ∧ Below w.heap.size w w' := by
  obtain ⟨i0, hi0, hz0, hz1, hz2⟩ := info_parts Va.recInfo
  have HAL := Lib.hid alive_any
  obtain ⟨v, hv⟩ : ∃ v, (decide (n ≤ 100) && canB l) = v := ⟨_, rfl⟩
  have HLT := Lib.hid (light_any A n c l w hA hn hc hcm v hv)
  by_cases hcase : v = true ∧ m ≤ 30 ∧ m2 ≤ 30
  · obtain ⟨rfl, h30, h32⟩ := hcase
    rw [Bool.and_eq_true, decide_eq_true_eq] at hv
    have hl := canB_iff.1 hv.2
    have hn100 := hv.1
    have dm1 : decide (30 < (m : Int)) = false := decide_eq_false (by omega)
    have dm2 : decide (30 < (m2 : Int)) = false := decide_eq_false (by omega)
    obtain ⟨D, hD⟩ : ∃ D, D1 ++ D2 = D := ⟨_, rfl⟩
    obtain ⟨mm, hmm⟩ : ∃ mm, m + m2 = mm := ⟨_, rfl⟩
    have hDl : D.length = mm := by rw [← hD, List.length_append, hm, hm2, hmm]
    obtain ⟨E, hE⟩ : ∃ E, fltE l D = E := ⟨_, rfl⟩
    obtain ⟨N1, hN1⟩ : ∃ N, nowL l D1 m = N := ⟨_, rfl⟩
    obtain ⟨P1, hP1⟩ : ∃ P, Va.pasN D1 (fltE l D1) m = P := ⟨_, rfl⟩
    obtain ⟨J1, hJ1⟩ : ∃ J, Va.rejD D1 (fltE l D1) m = J := ⟨_, rfl⟩
    obtain ⟨N2, hN2⟩ : ∃ N, nowL N1 D2 m2 = N := ⟨_, rfl⟩
    obtain ⟨P2, hP2⟩ : ∃ P, Va.pasN D2 (fltE N1 D2) m2 = P := ⟨_, rfl⟩
    obtain ⟨J2, hJ2⟩ : ∃ J, Va.rejD D2 (fltE N1 D2) m2 = J := ⟨_, rfl⟩
    obtain ⟨P3, hP3⟩ : ∃ P, Va.pasN D E mm = P := ⟨_, rfl⟩
    obtain ⟨J3, hJ3⟩ : ∃ J, Va.rejD D E mm = J := ⟨_, rfl⟩
    have hN3 : nowL l D mm = N2 := by
      rw [← hD, ← hmm, ← hm, now_snd, hm, hN1, ← hN2]
    have hP12 : P1 ++ P2 = P3 := by
      rw [← hP3, ← hE, ← hD, ← hmm, ← hm, pas_snd, hm, hP1, hN1, hP2]
    have hpart := parted D E mm
    rw [hP3, hJ3] at hpart
    obtain ⟨c1a, c1b⟩ := nowL_can (D := D1) hl m
    rw [hN1] at c1a c1b
    obtain ⟨c2a, c2b⟩ := nowL_can (D := D2) c1a m2
    rw [hN2] at c2a c2b
    have hP3' : Va.pasN D (fltE l D) mm = P3 := by rw [hE]; exact hP3
    have hJ3' : Va.rejD D (fltE l D) mm = J3 := by rw [hE]; exact hJ3
    obtain ⟨q1, hq1⟩ : ∃ q, N1.length = q := ⟨_, rfl⟩
    obtain ⟨p1, hp1⟩ : ∃ q, P1.length = q := ⟨_, rfl⟩
    obtain ⟨j1, hj1⟩ : ∃ q, J1.length = q := ⟨_, rfl⟩
    obtain ⟨q2, hq2⟩ : ∃ q, N2.length = q := ⟨_, rfl⟩
    obtain ⟨p2, hp2⟩ : ∃ q, P2.length = q := ⟨_, rfl⟩
    obtain ⟨j2, hj2⟩ : ∃ q, J2.length = q := ⟨_, rfl⟩
    obtain ⟨p3, hp3⟩ : ∃ q, P3.length = q := ⟨_, rfl⟩
    obtain ⟨j3, hj3⟩ : ∃ q, J3.length = q := ⟨_, rfl⟩
    rw [hp3, hj3] at hpart
    have hp12 : p1 + p2 = p3 := by rw [← hp1, ← hp2, ← hp3, ← hP12, List.length_append]
    have HF1 := Lib.hid (fun W (h : Below w.heap.size w W) => filter_got A B n c m d l D1 W hl (hA.below h) hn h0 (hB.below h) (fun a ha => Nat.lt_of_lt_of_le (hBl a ha) h.size) hm (by omega) (by omega) hc hcm hd hdm hN1 hP1 hJ1 hq1 hp1 hj1)
    have HF2 := Lib.hid (fun A2 c2 W (h : Below w.heap.size w W) (g : RgR W A2 N1) (g1 : q1 ≤ c2) (g2 : c2 ≤ maxLen) (g3 : A2 = none → q1 = 0) => filter_got A2 C q1 c2 m2 d2 N1 D2 W c1a g hq1 g3 (hC.below h) (fun a ha => Nat.lt_of_lt_of_le (hCl a ha) h.size) hm2 (by omega) (by omega) g1 g2 hd2 hdm2 hN2 hP2 hJ2 hq2 hp2 hj2)
    have HF3 := Lib.hid (fun A5 c5 W (h : Below w.heap.size w W) (g : Va.RecR W A5 D) (g1 : mm ≤ c5) (g2 : c5 ≤ maxLen) (g3 : ∀ a, A5 = some a → a.block < W.heap.size) => filter_got A A5 n c mm c5 l D W hl (hA.below h) hn h0 g g3 hDl (by omega) (by omega) hc hcm g1 g2 hN3 hP3' hJ3' hq2 hp3 hj3)
    have HS1 := Lib.hid (fun A B c d W h1 h2 => same_eq A B q2 c d N2 W h1 h2 hq2 (by omega))
    have HS2 := Lib.hid (fun A B c d W h1 h2 => Va.same_rec A B p3 c d P3 W h1 h2 hp3 (by omega))
    have HSB := Lib.hid (fun W (h : Below w.heap.size w W) => hB.below h)
    have HSC := Lib.hid (fun W (h : Below w.heap.size w W) => hC.below h)
    have HLB : Hid ((Va.recl D1).length = m * 12) := Lib.hid (by rw [Va.recl_len, hm])
    have HLC : Hid ((Va.recl D2).length = m2 * 12) := Lib.hid (by rw [Va.recl_len, hm2])
    have HLP1 : Hid ((Va.recl P1).length = p1 * 12) := Lib.hid (by rw [Va.recl_len, hp1])
    have HLP2 : Hid ((Va.recl P2).length = p2 * 12) := Lib.hid (by rw [Va.recl_len, hp2])
    have HMB := Lib.hid hm; have HMC := Lib.hid hm2; have HP1L := Lib.hid hp1; have HP2L := Lib.hid hp2
    have HCAT : Hid (Va.recl D1 ++ Va.recl D2 = Va.recl D) := Lib.hid (by rw [← Va.recl_app, hD])
    have HCAP : Hid (Va.recl P1 ++ Va.recl P2 = Va.recl P3) := Lib.hid (by rw [← Va.recl_app, hP12])
    have HMM := Lib.hid hmm; have HDL := Lib.hid hDl; have HP12 := Lib.hid hp12; have HP3 := Lib.hid hp3
    have HRH := Lib.hid (fun s x W (h : Below w.heap.size w W) => refHas_any A n c l s x W hl (hA.below h) hn hc hcm)
    have HHN := Lib.hid (fun s x A2 c2 W (hs : hasL N2 s x = true) (h : RgR W A2 N2) (h1 : q2 ≤ c2) (h2 : c2 ≤ maxLen) => has_is true A2 q2 c2 N2 s x hs W c2a (by omega) h hq2 h1 h2)
    have HAG : Hid (∀ i, agN l D (D.getD i Va.rc0).s0 (D.getD i Va.rc0).s1 i = !decide (E i = 0)) := Lib.hid (fun i => by rw [← hE]; exact agN_flt hl rfl rfl)
    have HTH : Hid (∀ i, i < mm → E i = 0 → (Va.pasN D E i).length < p3 ∧ P3.getD (Va.pasN D E i).length Va.rc0 = D.getD i Va.rc0 ∧ (Va.pasN D E (i + 1)).length = (Va.pasN D E i).length + 1 ∧ hasL N2 (D.getD i Va.rc0).s0 (D.getD i Va.rc0).s1 = true) := Lib.hid (fun i hi he => by
      obtain ⟨t1, t2, t3⟩ := pas_there (D := D) (E := E) hi he rfl
      rw [hP3] at t1 t2
      refine ⟨by omega, t2, t3, ?_⟩
      have h := pas_seen (l := l) (D := D) hl (m := mm) (i := (Va.pasN D E i).length) (r := D.getD i Va.rc0) (by rw [hP3']; exact t1) (by rw [hP3']; exact t2)
      rw [hN3] at h
      exact h.2)
    have HTN : Hid (∀ i, E i ≠ 0 → (Va.pasN D E (i + 1)).length = (Va.pasN D E i).length) := Lib.hid (fun i he => by rw [Va.pas_no he])
    have HPE : Hid ((Va.pasN D E mm).length = p3) := Lib.hid (by rw [hP3, hp3])
    have hpq : ((p3 : Int) + (j3 : Int) == (mm : Int)) = true := by have : (p3 : Int) + (j3 : Int) = (mm : Int) := (by omega); rw [this]; simp
    have hpn : ((p3 : Int) + (j3 : Int) != (mm : Int)) = false := by have : (p3 : Int) + (j3 : Int) = (mm : Int) := (by omega); rw [this]; simp
    have hb1 : (p1 : Int) ≤ 1000 := by omega
    have hb2 : (p2 : Int) ≤ 1000 := by omega
    have hb3 : (p3 : Int) ≤ 1000 := by omega
    have hb4 : (j3 : Int) ≤ 1000 := by omega
    have hb5 : (mm : Int) ≤ 1000 := by omega
    have hmb : m ≤ 30 ∧ m2 ≤ 30 := ⟨h30, h32⟩
    have HB00 := Lib.hid (Below.refl w.heap.size w)
    clear hA hn h0 hv hl hB hm hBl hC hm2 hCl hN1 hP1 hJ1 hN2 hP2 hJ2 hP3 hJ3 hP3' hJ3' hN3 hP12 hpart c1a c1b c2a c2b hq1 hp1 hj1 hq2 hp2 hj2 hp3 hj3 hp12 hD hmm hDl hE h30 h32
    have qm1 := hmb.1
    have qm2 := hmb.2
    clear hmb
    go_enter Try.func7, Try.ntmps7
    go_wp2_with (first
      | (go_at_call 13; (with_reducible refine HLT.out.mono ?_); rintro e w1 ⟨rfl, hb⟩; have HB1 := Lib.hid hb; clear hb)
      | (go_at_call 21; (with_reducible refine (HF1.out _ HB1.out).mono ?_); rintro e w2 ⟨A2, c2, A3, c3, A4, c4, rfl, g1, g2, -, g4, -, -, hb⟩; have HB2 := Lib.hid (HB1.out.trans (hb.mono HB1.out.size)); have HXA := Lib.hid g1; have HXC := Lib.hid g4; have HXP := Lib.hid g2; clear g1 g2 g4 hb)
      | (go_at_call 21; (with_reducible refine (HF2.out A2 c2 _ HB2.out HXA.out HXC.out.1 HXC.out.2.1 HXC.out.2.2).mono ?_); rintro e w3 ⟨A6, c6, A7, c7, A8, c8, rfl, g1, g2, -, -, -, -, hb⟩; have HB3 := Lib.hid (HB2.out.trans (hb.mono HB2.out.size)); have HYA := Lib.hid g1; have HYP := Lib.hid g2; have HXP := Lib.hid (HXP.out.below hb); clear g1 g2 hb)
      | (at_builtin; refine wpList_append_any rfl (.tmp 50) (.tmp 51) 32 rfl w3.heap.size 40 i0 _ 12 112 Try.underlying32 hi0 hz0 hz1 hz2 rfl (by decide) (.slice (some ⟨w3.heap.size, 0, none⟩) 0 0) 0 ([]) rfl (own_lit12 w3 _) B m d (Va.recl D1) rfl HLB.out (rec_none (HSB.out w HB00.out) HMB.out) (rec_cells (HSB.out _ (HB3.out.alloc HB3.out.size _))) (Va.recl_one _) (by unfold maxLen; omega) (by omega) (by simp) ?_; intro v4 w4 z1 z2; have HO4 := Lib.hid z1; have HG4 : Hid (Below w3.heap.size w3 w4) := Lib.hid ((below_lit3 w3 _).grown z2 (by simp) (fun g hg => (World.ownsRow.lt (own_lit12 w3 40) g hg).1)); have HB4 := Lib.hid (HB3.out.trans (HG4.out.mono HB3.out.size)); clear z1 z2)
      | (at_builtin; refine wpList_append_any rfl (.tmp 52) (.tmp 53) 32 rfl w3.heap.size 40 i0 _ 12 112 Try.underlying32 hi0 hz0 hz1 hz2 rfl (by decide) v4 _ (_) rfl HO4.out C m2 d2 (Va.recl D2) rfl HLC.out (rec_none (HSC.out w HB00.out) HMC.out) (rec_cells (HSC.out _ HB4.out)) (Va.recl_one _) (by unfold maxLen; omega) (by omega) HG4.out.size ?_; intro v5 w5 z1 z2; have HO5 : Hid (w5.ownsRow w3.heap.size 40 12 v5 mm (Va.recl D)) := Lib.hid (by rw [List.nil_append, HCAT.out, Nat.zero_add, HMM.out] at z1; exact z1); have HG5 : Hid (Below w3.heap.size w3 w5) := Lib.hid (HG4.out.grown z2 HG4.out.size (fun g hg => (World.ownsRow.lt HO4.out g hg).1)); have HB5 := Lib.hid (HB3.out.trans (HG5.out.mono HB3.out.size)); have HYA := Lib.hid (HYA.out.below HG5.out); have HYP := Lib.hid (HYP.out.below HG5.out); have HXP := Lib.hid (HXP.out.below HG5.out); obtain ⟨A5, c5, rfl, ga, gb, gc, gd⟩ := rec_own2 HO5.out HDL.out; have HRA := Lib.hid gc; have HRC := Lib.hid (And.intro ga (And.intro gb gd)); clear z1 z2 ga gb gc gd)
      | (go_at_call 21; (with_reducible refine (HF3.out A5 c5 _ HB5.out HRA.out HRC.out.1 HRC.out.2.1 HRC.out.2.2).mono ?_); rintro e w6 ⟨AA, ca, AB, cb, AC, cc, rfl, g1, g2, -, g4, g5, -, hb⟩; have HB6 := Lib.hid (HB5.out.trans (hb.mono HB5.out.size)); have HZA := Lib.hid g1; have HZP := Lib.hid g2; have HZC := Lib.hid g4; have HYA := Lib.hid (HYA.out.below hb); have HYP := Lib.hid (HYP.out.below hb); have HXP := Lib.hid (HXP.out.below hb); have HRA := Lib.hid (HRA.out.below hb); clear g1 g2 g4 g5 hb)
      | (go_at_call 20; (with_reducible refine (HS1.out _ _ _ _ _ HYA.out HZA.out).mono ?_); rintro e w7 ⟨rfl, hb⟩; have HB7 := Lib.hid (HB6.out.trans (hb.mono HB6.out.size)); have HYP := Lib.hid (HYP.out.below hb); have HXP := Lib.hid (HXP.out.below hb); have HRA := Lib.hid (HRA.out.below hb); have HZA := Lib.hid (HZA.out.below hb); have HZP := Lib.hid (HZP.out.below hb); clear hb)
      | (at_builtin; refine wpList_guard rfl ?_; refine wpList_append_any rfl (.tmp 67) (.tmp 68) 32 rfl w7.heap.size 40 i0 _ 12 112 Try.underlying32 hi0 hz0 hz1 hz2 rfl (by decide) (.slice (some ⟨w7.heap.size, 0, none⟩) 0 0) 0 ([]) rfl (own_lit12 w7 _) A3 p1 c3 (Va.recl P1) rfl HLP1.out (rec_none HXP.out HP1L.out) (rec_cells (HXP.out.below (below_lit3 w7 _))) (Va.recl_one _) (by unfold maxLen; omega) (by omega) (by simp) ?_; intro v8 w8 z1 z2; have HO8 := Lib.hid z1; have HG8 : Hid (Below w7.heap.size w7 w8) := Lib.hid ((below_lit3 w7 _).grown z2 (by simp) (fun g hg => (World.ownsRow.lt (own_lit12 w7 40) g hg).1)); clear z1 z2)
      | (at_builtin; refine wpList_guard rfl ?_; refine wpList_append_any rfl (.tmp 69) (.tmp 70) 32 rfl w7.heap.size 40 i0 _ 12 112 Try.underlying32 hi0 hz0 hz1 hz2 rfl (by decide) v8 _ (_) rfl HO8.out A7 p2 c7 (Va.recl P2) rfl HLP2.out (rec_none HYP.out HP2L.out) (rec_cells (HYP.out.below HG8.out)) (Va.recl_one _) (by unfold maxLen; omega) (by omega) HG8.out.size ?_; intro v9 w9 z1 z2; have HO9 : Hid (w9.ownsRow w7.heap.size 40 12 v9 p3 (Va.recl P3)) := Lib.hid (by rw [List.nil_append, HCAP.out, Nat.zero_add, HP12.out] at z1; exact z1); have HG9 : Hid (Below w7.heap.size w7 w9) := Lib.hid (HG8.out.grown z2 HG8.out.size (fun g hg => (World.ownsRow.lt HO8.out g hg).1)); have HB9 := Lib.hid (HB7.out.trans (HG9.out.mono HB7.out.size)); have HRA := Lib.hid (HRA.out.below HG9.out); have HZA := Lib.hid (HZA.out.below HG9.out); have HZP := Lib.hid (HZP.out.below HG9.out); obtain ⟨A9, c9, rfl, ga, gb, gc, gd⟩ := rec_own2 HO9.out HP3.out; have HWA := Lib.hid gc; clear z1 z2 ga gb gc gd)
      | (go_at_call 23; (with_reducible refine (HS2.out _ _ _ _ _ HWA.out HZP.out).mono ?_); rintro e wa ⟨rfl, hb⟩; have HBA := Lib.hid (HB9.out.trans (hb.mono HB9.out.size)); have HRA := Lib.hid (HRA.out.below hb); have HZA := Lib.hid (HZA.out.below hb); have HZP := Lib.hid (HZP.out.below hb); clear hb))
    go_loopw [17, 18] (fun kv iv wr => ∃ i : Nat, kv = .int .i64 ((Va.pasN D E i).length : Int) ∧ iv = .int .i64 i ∧ i ≤ mm ∧ Hid (Below wa.heap.size wa wr)) (fun _ iv _ => mm - (intOf iv).toNat)
    case atStart => exact ⟨0, rfl, rfl, by omega, Lib.hid (Below.refl _ _)⟩
    case round =>
      obtain ⟨i, rfl, rfl, hi, HBW⟩ := hrel
      obtain ⟨kp, hkp⟩ : ∃ kp, (Va.pasN D E i).length = kp := ⟨_, rfl⟩
      rw [hkp]
      have HKP := Lib.hid hkp
      by_cases hlt : i < mm
      · have hlt' : (i : Int) < (mm : Int) := by omega
        have hi0' : (0 : Int) ≤ (i : Int) := by omega
        obtain ⟨bk, off, hA5, hbl, hcs⟩ := (HRA.out.below HBW.out) i (by rw [HDL.out]; exact hlt)
        have HAI := Lib.hid (HAG.out i); have HTI := Lib.hid (HTH.out i hlt); have HTM := Lib.hid (HTN.out i)
        rw [hkp] at HTI HTM
        obtain ⟨⟨s0, s1, s2, sa, sb, s5, s6, s7, s8, b9, s10, b11⟩, hp⟩ : ∃ r, D.getD i Va.rc0 = r := ⟨_, rfl⟩
        rw [hp] at hcs HAI HTI
        obtain ⟨e0, e1, e2, e3, e4, e5, e6, e7, e8, e9, e10, e11⟩ := hcs.all
        simp only at e0 e1 e2 e3 e4 e5 e6 e7 e8 e9 e10 e11 HAI HTI
        have HBY : Hid (RcB (wr.alloc (.cells #[.int .i64 s0, .int .i64 s1, .int .i64 s2, .string sa, .string sb, .int .i64 s5, .int .i64 s6, .int .i64 s7, .int .i64 s8, .bool b9, .int .i64 s10, .bool b11] 40)) wr.heap.size ⟨s0, s1, s2, sa, sb, s5, s6, s7, s8, b9, s10, b11⟩) := Lib.hid (heap_alloc_new wr _)
        have HBX : Hid (Below wa.heap.size wa (wr.alloc (.cells #[.int .i64 s0, .int .i64 s1, .int .i64 s2, .string sa, .string sb, .int .i64 s5, .int .i64 s6, .int .i64 s7, .int .i64 s8, .bool b9, .int .i64 s10, .bool b11] 40))) := Lib.hid (HBW.out.alloc HBW.out.size _)
        obtain ⟨R, hR⟩ : ∃ R, wr.heap.size = R := ⟨_, rfl⟩
        obtain ⟨Wy, hWy⟩ : ∃ W, wr.alloc (.cells #[.int .i64 s0, .int .i64 s1, .int .i64 s2, .string sa, .string sb, .int .i64 s5, .int .i64 s6, .int .i64 s7, .int .i64 s8, .bool b9, .int .i64 s10, .bool b11] 40) = W := ⟨_, rfl⟩
        rw [hWy] at HBY HBX
        rw [hR] at HBY
        have HBL : Hid (R < Wy.heap.size) := Lib.hid (by rw [← hWy, ← hR]; simp)
        obtain ⟨c0, c1, c2, c3, c4, c5, c6, c7, c8, c9, c10, c11⟩ := HBY.out.cells
        simp only at c0 c1 c2 c3 c4 c5 c6 c7 c8 c9 c10 c11
        have hA5' := HRC.out.2.2
        subst hA5
        clear hcs hp hkp
        go_upto_region 14 with fail
        go_cut [20] from 86 to 171 (fun s20 wx => Wy = wx ∧ s20 = .bool (agN l D s0 s1 0))
        case first =>
          have HRHI := Lib.hid (HRH.out s0 s1 Wy (HBA.out.trans (HBX.out.mono HBA.out.size)))
          have HZE := Lib.hid (ag_zero (l := l) (D := D) (s := s0) (x := s1))
          obtain ⟨zz, hzz⟩ : ∃ zz, agN l D s0 s1 0 = zz := ⟨_, rfl⟩
          have HZZ := Lib.hid hzz
          rw [hzz] at HZE
          obtain ⟨hh, hhh⟩ : ∃ hh, hasL l s0 s1 = hh := ⟨_, rfl⟩
          rw [hhh] at HRHI HZE
          clear hzz hhh
          cases hh
          · by_cases a1 : s0 < 1
            · have d1 : decide (s0 < 1) = true := decide_eq_true a1
              have HZ : Hid (zz = true) := Lib.hid (by rw [HZE.out, id_low (.inl a1)]; rfl)
              go_wp2_with (go_at_call 15; (with_reducible refine HRHI.out.mono ?_); rintro e wq ⟨rfl, rfl⟩)
              go_meet
              exact ⟨rfl, by rw [HZZ.out, HZ.out]⟩
            · have d1 : decide (s0 < 1) = false := decide_eq_false a1
              by_cases a2 : 99 < s0
              · have d2 : decide (99 < s0) = true := decide_eq_true a2
                have HZ : Hid (zz = true) := Lib.hid (by rw [HZE.out, id_low (.inr (.inl a2))]; rfl)
                go_wp2_with (go_at_call 15; (with_reducible refine HRHI.out.mono ?_); rintro e wq ⟨rfl, rfl⟩)
                go_meet
                exact ⟨rfl, by rw [HZZ.out, HZ.out]⟩
              · have d2 : decide (99 < s0) = false := decide_eq_false a2
                by_cases a3 : s1 < 1
                · have d3 : decide (s1 < 1) = true := decide_eq_true a3
                  have HZ : Hid (zz = true) := Lib.hid (by rw [HZE.out, id_low (.inr (.inr (.inl a3)))]; rfl)
                  go_wp2_with (go_at_call 15; (with_reducible refine HRHI.out.mono ?_); rintro e wq ⟨rfl, rfl⟩)
                  go_meet
                  exact ⟨rfl, by rw [HZZ.out, HZ.out]⟩
                · have d3 : decide (s1 < 1) = false := decide_eq_false a3
                  by_cases a4 : 999999999 < s1
                  · have d4 : decide (999999999 < s1) = true := decide_eq_true a4
                    have HZ : Hid (zz = true) := Lib.hid (by rw [HZE.out, id_low (.inr (.inr (.inr a4)))]; rfl)
                    go_wp2_with (go_at_call 15; (with_reducible refine HRHI.out.mono ?_); rintro e wq ⟨rfl, rfl⟩)
                    go_meet
                    exact ⟨rfl, by rw [HZZ.out, HZ.out]⟩
                  · have d4 : decide (999999999 < s1) = false := decide_eq_false a4
                    have HZ : Hid (zz = false) := Lib.hid (by rw [HZE.out, idB_iff.2 ⟨by omega, by omega, by omega, by omega⟩]; rfl)
                    go_wp2_with (go_at_call 15; (with_reducible refine HRHI.out.mono ?_); rintro e wq ⟨rfl, rfl⟩)
                    go_meet
                    exact ⟨rfl, by rw [HZZ.out, HZ.out]⟩
          · have HZ : Hid (zz = true) := Lib.hid (by rw [HZE.out]; rfl)
            go_wp2_with (go_at_call 15; (with_reducible refine HRHI.out.mono ?_); rintro e wq ⟨rfl, rfl⟩)
            go_meet
            exact ⟨rfl, by rw [HZZ.out, HZ.out]⟩
        case rest =>
          obtain ⟨rfl, rfl⟩ := hcut
          go_wp2_with fail
          go_loopw [20, 21] (fun bv jv wi => ∃ j : Nat, bv = .bool (agN l D s0 s1 j) ∧ jv = .int .i64 j ∧ j ≤ i ∧ Hid (Below Wy.heap.size Wy wi)) (fun _ jv _ => i - (intOf jv).toNat)
          case atStart => exact ⟨0, rfl, rfl, by omega, Lib.hid (Below.refl _ _)⟩
          case round =>
            obtain ⟨j, rfl, rfl, hj, HBJ⟩ := hrel
            have HBWI := Lib.hid (HBX.out.trans (HBJ.out.mono HBX.out.size))
            obtain ⟨c0, c1, c2, c3, c4, c5, c6, c7, c8, c9, c10, c11⟩ := (HBY.out.below HBJ.out HBL.out).cells
            simp only at c0 c1 c2 c3 c4 c5 c6 c7 c8 c9 c10 c11
            by_cases hlj : j < i
            · have hlj' : (j : Int) < (i : Int) := by omega
              have hj0 : (0 : Int) ≤ (j : Int) := by omega
              have hjm : (j : Int) < (mm : Int) := by omega
              obtain ⟨f0, f1⟩ := rc_at2 (HRA.out.below HBWI.out) (k := j) (by rw [HDL.out]; omega)
              have HST := Lib.hid (agN_step (l := l) (D := D) (s := s0) (x := s1) (j := j))
              obtain ⟨x0, hx0⟩ : ∃ x, (D.getD j Va.rc0).s0 = x := ⟨_, rfl⟩
              obtain ⟨x1, hx1⟩ : ∃ x, (D.getD j Va.rc0).s1 = x := ⟨_, rfl⟩
              rw [hx0] at f0 HST
              rw [hx1] at f1 HST
              obtain ⟨bb, hbb⟩ : ∃ bb, agN l D s0 s1 j = bb := ⟨_, rfl⟩
              rw [hbb] at HST ⊢
              have r0 := cell_regrown f0
              have r1 := cell_regrown f1
              have r2 := cell_regrown c0
              have r3 := cell_regrown c1
              clear hx0 hx1 hbb c2 c3 c4 c5 c6 c7 c8 c9 c10 c11
              cases bb
              · by_cases y0 : x0 = s0
                · have hq0 : (x0 == s0) = true := by simp [y0]
                  by_cases y1 : x1 = s1
                  · have hq1 : (x1 == s1) = true := by simp [y1]
                    have HNX : Hid (agN l D s0 s1 (j + 1) = true) := Lib.hid (by rw [HST.out, decide_eq_true y0, decide_eq_true y1]; rfl)
                    clear y0 y1
                    go_wp2_with fail
                    refine wp_region_quiet_below (by kernel_rfl) (by kernel_rfl) ?_
                    iterate 22 (go_big_quiet_step (fail))
                    refine wpQuiet_nil ?_
                    intro _ hw'
                    obtain ⟨⟨dq, osq⟩, hw''⟩ := hw'
                    subst hw''
                    go_wp2_with fail
                    go_roundw
                    case rel => exact ⟨j + 1, by rw [HNX.out], by go_num, by omega, Lib.hid (HBJ.out.trans ((below_regrown _ dq osq).mono HBJ.out.size))⟩
                    case measure => simp [intOf]; omega
                  · have hq1 : (x1 == s1) = false := by simp [y1]
                    have HNX : Hid (agN l D s0 s1 (j + 1) = false) := Lib.hid (by rw [HST.out, decide_eq_false y1, Bool.and_false]; rfl)
                    clear y0 y1
                    go_wp2_with fail
                    refine wp_region_quiet_below (by kernel_rfl) (by kernel_rfl) ?_
                    iterate 22 (go_big_quiet_step (fail))
                    refine wpQuiet_nil ?_
                    intro _ hw'
                    obtain ⟨⟨dq, osq⟩, hw''⟩ := hw'
                    subst hw''
                    go_wp2_with fail
                    go_roundw
                    case rel => exact ⟨j + 1, by rw [HNX.out], by go_num, by omega, Lib.hid (HBJ.out.trans ((below_regrown _ dq osq).mono HBJ.out.size))⟩
                    case measure => simp [intOf]; omega
                · have hq0 : (x0 == s0) = false := by simp [y0]
                  have HNX : Hid (agN l D s0 s1 (j + 1) = false) := Lib.hid (by rw [HST.out, decide_eq_false y0, Bool.false_and]; rfl)
                  clear y0
                  go_wp2_with fail
                  refine wp_region_quiet_below (by kernel_rfl) (by kernel_rfl) ?_
                  iterate 22 (go_big_quiet_step (fail))
                  refine wpQuiet_nil ?_
                  intro _ hw'
                  obtain ⟨⟨dq, osq⟩, hw''⟩ := hw'
                  subst hw''
                  go_wp2_with fail
                  go_roundw
                  case rel => exact ⟨j + 1, by rw [HNX.out], by go_num, by omega, Lib.hid (HBJ.out.trans ((below_regrown _ dq osq).mono HBJ.out.size))⟩
                  case measure => simp [intOf]; omega
              · have HNX : Hid (agN l D s0 s1 (j + 1) = true) := Lib.hid (by rw [HST.out]; rfl)
                go_wp2_with fail
                refine wp_region_quiet_below (by kernel_rfl) (by kernel_rfl) ?_
                iterate 22 (go_big_quiet_step (fail))
                refine wpQuiet_nil ?_
                intro _ hw'
                obtain ⟨⟨dq, osq⟩, hw''⟩ := hw'
                subst hw''
                go_wp2_with fail
                go_roundw
                case rel => exact ⟨j + 1, by rw [HNX.out], by go_num, by omega, Lib.hid (HBJ.out.trans ((below_regrown _ dq osq).mono HBJ.out.size))⟩
                case measure => simp [intOf]; omega
            · obtain rfl : j = i := by omega
              by_cases he : E j = 0
              · rw [HAI.out, decide_eq_true he]
                obtain ⟨t1, t2, t3, t4⟩ := HTI.out he
                have HT3 := Lib.hid t3
                have t1i : (kp : Int) < (p3 : Int) := by omega
                have hkp0 : (0 : Int) ≤ (kp : Int) := by omega
                have hge : decide ((p3 : Int) ≤ (kp : Int)) = false := decide_eq_false (by omega)
                have hge2 : decide (p3 ≤ kp) = false := decide_eq_false (by omega)
                obtain ⟨bz, oz, hAB, hbz, hcz⟩ := (HZP.out.below HBWI.out) kp (by rw [HP3.out]; exact t1)
                rw [t2] at hcz
                obtain ⟨g0, g1, g2, g3, g4, g5, g6, g7, g8, g9, g10, g11⟩ := hcz.all
                simp only at g0 g1 g2 g3 g4 g5 g6 g7 g8 g9 g10 g11
                have E3 := Lib.hid (fun W (h : Below wr.heap.size wr W) => HHN.out s0 s1 AA ca W t4 ((HZA.out.below HBWI.out).below h) HZC.out.1 HZC.out.2.1)
                have nq := Va.neqRec_same ⟨s0, s1, s2, sa, sb, s5, s6, s7, s8, b9, s10, b11⟩
                simp only [Rc.cells] at nq
                have gq := Va.guardRec
                subst hAB
                have rz0 := cell_regrown g0
                have rz1 := cell_regrown g1
                have rz2 := cell_regrown g2
                have rz3 := cell_regrown g3
                have rz4 := cell_regrown g4
                have rz5 := cell_regrown g5
                have rz6 := cell_regrown g6
                have rz7 := cell_regrown g7
                have rz8 := cell_regrown g8
                have rz9 := cell_regrown g9
                have rz10 := cell_regrown g10
                have rz11 := cell_regrown g11
                have rc0 := cell_regrown c0
                have rc1 := cell_regrown c1
                have rc2 := cell_regrown c2
                have rc3 := cell_regrown c3
                have rc4 := cell_regrown c4
                have rc5 := cell_regrown c5
                have rc6 := cell_regrown c6
                have rc7 := cell_regrown c7
                have rc8 := cell_regrown c8
                have rc9 := cell_regrown c9
                have rc10 := cell_regrown c10
                have rc11 := cell_regrown c11
                clear t1 t2 t3 t4 hcz hbz he
                go_wp2_with fail
                refine wp_region_quiet_below (by kernel_rfl) (by kernel_rfl) ?_
                iterate 21 (go_big_quiet_step (with_reducible exact Calls.regrown_of (E3.out _ (below_regrown _ _ _))))
                refine wpQuiet_nil ?_
                intro _ hw'
                obtain ⟨⟨dq, osq⟩, hw''⟩ := hw'
                subst hw''
                go_wp2_with fail
                go_roundw
                case rel => exact ⟨j + 1, by rw [HT3.out]; go_num, by go_num, by omega, Lib.hid (HBWI.out.trans ((below_regrown _ dq osq).mono HBWI.out.size))⟩
                case measure => simp [intOf]; omega
              · rw [HAI.out, decide_eq_false he]
                have HT3 := Lib.hid (HTM.out he)
                clear he
                go_wp2_with fail
                go_roundw
                case rel => exact ⟨j + 1, by rw [HT3.out], by go_num, by omega, HBWI⟩
                case measure => simp [intOf]; omega
      · obtain rfl : i = mm := by omega
        obtain rfl : kp = p3 := by rw [← HKP.out]; exact HPE.out
        have HBE := Lib.hid (HBA.out.trans (HBW.out.mono HBA.out.size))
        go_wp2_with (go_at_call 10; (with_reducible refine (HAL.out _).mono ?_); rintro e wz ⟨rfl, hb⟩; have HBZ := Lib.hid (HBE.out.trans (hb.mono HBE.out.size)); clear hb)
        go_ret
        exact ⟨rfl, HBZ.out⟩
  · have hno : ∀ (b : Bool), v = b → True := fun _ _ => trivial
    clear hno
    cases v
    · clear hA hn h0 hv hB hm hBl hC hm2 hCl hcase
      go_enter Try.func7, Try.ntmps7
      go_wp2_with (first
        | (go_at_call 13; (with_reducible refine HLT.out.mono ?_); rintro e w1 ⟨rfl, hb1⟩; have HB1 := Lib.hid hb1; clear hb1)
        | (go_at_call 10; (with_reducible refine (HAL.out _).mono ?_); rintro e w3 ⟨rfl, hb3⟩; have HB3 := Lib.hid (HB1.out.trans (hb3.mono HB1.out.size)); clear hb3))
      go_ret
      exact ⟨rfl, HB3.out⟩
    · by_cases h30 : m ≤ 30
      · have dm1 : decide (30 < (m : Int)) = false := decide_eq_false (by omega)
        have h32 : ¬ m2 ≤ 30 := fun h => hcase ⟨rfl, h30, h⟩
        have dm2 : decide (30 < (m2 : Int)) = true := decide_eq_true (by omega)
        clear hA hn h0 hv hB hm hBl hC hm2 hCl hcase
        go_enter Try.func7, Try.ntmps7
        go_wp2_with (first
          | (go_at_call 13; (with_reducible refine HLT.out.mono ?_); rintro e w1 ⟨rfl, hb1⟩; have HB1 := Lib.hid hb1; clear hb1)
          | (go_at_call 10; (with_reducible refine (HAL.out _).mono ?_); rintro e w3 ⟨rfl, hb3⟩; have HB3 := Lib.hid (HB1.out.trans (hb3.mono HB1.out.size)); clear hb3))
        go_ret
        exact ⟨rfl, HB3.out⟩
      · have dm1 : decide (30 < (m : Int)) = true := decide_eq_true (by omega)
        clear hA hn h0 hv hB hm hBl hC hm2 hCl hcase
        go_enter Try.func7, Try.ntmps7
        go_wp2_with (first
          | (go_at_call 13; (with_reducible refine HLT.out.mono ?_); rintro e w1 ⟨rfl, hb1⟩; have HB1 := Lib.hid hb1; clear hb1)
          | (go_at_call 10; (with_reducible refine (HAL.out _).mono ?_); rintro e w3 ⟨rfl, hb3⟩; have HB3 := Lib.hid (HB1.out.trans (hb3.mono HB1.out.size)); clear hb3))
        go_ret
        exact ⟨rfl, HB3.out⟩
end Go.Proofs.Ytgobbeommjjlfaa
