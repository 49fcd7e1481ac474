/- Walk: the record of bytes. -/
import Derived.Test.YtinnmnhaeejfdaaTgRec
import Derived.Test.YtinnmnhaeejfdaaTgElm
import Derived.Test.YtinnmnhaeejfdaaTgChk
import Derived.Test.YtinnmnhaeejfdaaTgLE
namespace Go.Proofs.Ytinnmnhaeejfdaa
open Go.RowKit

set_option maxHeartbeats 4000000 in
theorem extent_short {A : Option Addr} {n c : Nat} {w : World} (hn : n < 2) : Calls Try.prog 32 #[.slice A n c] w fun e w' => e = .returned (.tuple #[.int .i64 0, .int .i64 2]) ∧ Below w.heap.size w w' := by
  have h1 : (n : Int) < 2 := by omega
  clear hn
  go_enter Try.func32, Try.ntmps32
  go_wp2
  go_ret2
  exact ⟨rfl, Below.refl _ _⟩
set_option maxHeartbeats 4000000 in
theorem extent_any {A : Option Addr} {n c : Nat} {w : World} {x y : Int} {t : List Int} (hA : Byt w A n c (x :: y :: t)) (hn : n ≤ 100000) : Calls Try.prog 32 #[.slice A n c] w fun e w' => e = .returned (.tuple #[.int .i64 (if (t.length : Int) < x * 256 + y then 0 else 2 + x * 256 + y), .int .i64 (if (t.length : Int) < x * 256 + y then 2 else 0)]) ∧ Below w.heap.size w w' := by
  have hl := hA.len
  simp only [List.length_cons] at hl
  obtain ⟨b, off, x', rfl, hx, hc, -⟩ := hA.at (k := 0) (by omega)
  obtain ⟨b', off', y', hA', hy, hcy, -⟩ := hA.at (k := 1) (by omega)
  obtain ⟨rfl, rfl⟩ : b = b' ∧ off = off' := by simpa using hA'
  obtain rfl : x = x' := by simpa using hx
  obtain rfl : y = y' := by simpa using hy
  rw [Nat.add_zero] at hc
  obtain ⟨hx0, hx1⟩ := hA.ran x (by simp)
  obtain ⟨hy0, hy1⟩ := hA.ran y (by simp)
  have h2 : ¬ (n : Int) < 2 := by omega
  have h2' : (2 : Int) ≤ (n : Int) := by omega
  have i0 : (0 : Int) < (n : Int) := by omega
  have i1 : (1 : Int) < (n : Int) := by omega
  have s1 : IntKind.i64.wrap (x * 256) = x * 256 := IntWalk.i64_in _ (by omega)
  have s2 : IntKind.i64.wrap (2 + x * 256) = 2 + x * 256 := IntWalk.i64_in _ (by omega)
  have s3 : IntKind.i64.wrap (2 + x * 256 + y) = 2 + x * 256 + y := IntWalk.i64_in _ (by omega)
  obtain ⟨N, hN⟩ : ∃ N, 2 + x * 256 + y = N := ⟨_, rfl⟩
  rw [hN] at s3
  have hcs : ((t.length : Int) < x * 256 + y) ↔ (n : Int) < N := by omega
  simp only [hcs]
  have HN := Lib.hid hN
  clear hA hx hy hA' hcs hl
  by_cases hc3 : (n : Int) < N
  · simp only [if_pos hc3]
    go_enter Try.func32, Try.ntmps32
    go_wp2_with fail
    go_quiet (fail)
    go_wp2
    go_ret2
    exact ⟨rfl, below_drawn (Below.refl _ _) _⟩
  · simp only [if_neg hc3]
    go_enter Try.func32, Try.ntmps32
    go_wp2_with fail
    go_quiet (fail)
    go_wp2
    go_ret2
    exact ⟨by rw [HN.out]; rfl, below_drawn (Below.refl _ _) _⟩
/-- What Decode gives. -/
def DecP (l : List Int) (w : World) (e : Ending) (w' : World) : Prop := e = .returned (.tuple #[.agg (decR l).1.cells, .int .i64 (decR l).2]) ∧ Below w.heap.size w w'
theorem elm_sizes : ∀ (k : Nat) (l : List Int) (q : Int), ∀ e ∈ (elmF k l q).1, e.2.length ≤ l.length
  | 0, l, q, e, h => by simp [elmF] at h
  | k + 1, [], q, e, h => by rw [elmF_nil] at h; simp at h
  | k + 1, [t], q, e, h => by
    by_cases h1 : t = 0 <;> by_cases h2 : t ≤ q <;> simp [elmF_one, h1, h2] at h
  | k + 1, t :: z :: s, q, e, h => by
    rw [elmF_cons] at h
    by_cases h1 : t = 0
    · rw [if_pos h1] at h; simp at h
    · rw [if_neg h1] at h
      by_cases h2 : t ≤ q
      · rw [if_pos h2] at h; simp at h
      · rw [if_neg h2] at h
        by_cases h3 : (s.length : Int) < z
        · rw [if_pos h3] at h; simp at h
        · rw [if_neg h3] at h
          rcases List.mem_cons.1 h with rfl | h
          · simp only [List.length_take, List.length_cons]; omega
          · have := elm_sizes k (s.drop z.toNat) t e h
            rw [List.length_drop] at this
            simp only [List.length_cons]; omega

set_option maxRecDepth 100000 in
set_option maxHeartbeats 16000000 in
theorem dec_short {A : Option Addr} {n c : Nat} {l : List Int} {w : World} (hA : Byt w A n c l) (hn : n ≤ 100000) (hs : n < 2) : Calls Try.prog 19 #[.slice A n c] w (DecP l w) := by
  obtain ⟨L, hL, hL0, hx, hLs⟩ := rec_world w rc0
  obtain ⟨b0, hb0⟩ : ∃ b0, w.heap.size = b0 := ⟨_, rfl⟩
  rw [hb0] at hx
  have hni : (n : Int) ≤ 100000 := by omega
  have HX := Lib.hid hx; have HL0 := Lib.hid hL0; have HB0 := Lib.hid hb0; have HLS : Hid (L.heap.size = b0 + 1) := Lib.hid (by omega)
  simp only [Rc.cells, rc0] at hL
  clear hx hL0 hLs
  have hd : decR l = (rc0, 2) := by
    have := hA.len
    match l, this with
    | [], _ => rfl
    | [_], _ => rfl
    | x :: y :: t, h => simp at h; omega
  have HD := Lib.hid hd
  have HE := Lib.hid (fun w => extent_short (A := A) (c := c) (w := w) hs)
  clear hA hd hs
  go_enter Try.func19, Try.ntmps19
  go_wp2_with (go_at_call 32; refine (HE.out _).mono ?_; rintro e w1 ⟨rfl, hb1⟩; have HB1 := Lib.hid hb1; have HX := Lib.hid (HX.out.below hb1 (by have := HLS.out; omega)); clear hb1; obtain ⟨q0, q1, q2, q3, q4, q5, q6, q7, q8, q9, q10, q11⟩ := HX.out.cells; have hfr := HX.out.fr)
  refine bodyPost_ret (v := .tuple #[.agg rc0.cells, .int .i64 2]) ?_ rfl ⟨by rw [HD.out], ?_⟩
  · exact results_cell2 (p := 2) (u := 3) rfl _ _ b0 34 rc0.cells (0, 0) _ rfl (HX.out.put rc0) Try.underlying34 rfl rfl
  · rw [HB0.out]
    have h9 : Below b0 w w1 := HB0.out ▸ HL0.out.trans (HB1.out.mono HL0.out.size)
    repeat' apply Below.setCell
    all_goals first | exact h9 | exact Nat.le_refl _
set_option maxRecDepth 100000 in
set_option maxHeartbeats 16000000 in
theorem dec_torn {A : Option Addr} {n c : Nat} {x y : Int} {t : List Int} {w : World} (hA : Byt w A n c (x :: y :: t)) (hn : n ≤ 100000) (hs : (t.length : Int) < x * 256 + y) : Calls Try.prog 19 #[.slice A n c] w (DecP (x :: y :: t) w) := by
  obtain ⟨L, hL, hL0, hx, hLs⟩ := rec_world w rc0
  obtain ⟨b0, hb0⟩ : ∃ b0, w.heap.size = b0 := ⟨_, rfl⟩
  rw [hb0] at hx
  have hni : (n : Int) ≤ 100000 := by omega
  have HX := Lib.hid hx; have HL0 := Lib.hid hL0; have HB0 := Lib.hid hb0; have HLS : Hid (L.heap.size = b0 + 1) := Lib.hid (by omega)
  simp only [Rc.cells, rc0] at hL
  clear hx hL0 hLs
  have hext := fun w' (hb : Below w.heap.size w w') => extent_any (hA.below hb) hn
  have hl := hA.len
  simp only [List.length_cons] at hl
  have HA := Lib.hid hA
  have hd : decR (x :: y :: t) = (rc0, 2) := by
    simp only [decR]
    rw [if_pos hs]
  have HD := Lib.hid hd
  simp only [if_pos hs] at hext
  have HE := Lib.hid hext
  clear hext hs hl
  clear hd hA
  go_enter Try.func19, Try.ntmps19
  go_wp2_with (first
    | (go_at_call 32; refine (HE.out _ HL0.out).mono ?_; rintro e w1 ⟨rfl, hb1⟩; have HB1 := Lib.hid hb1; have HX := Lib.hid (HX.out.below hb1 (by have := HLS.out; omega)); clear hb1; obtain ⟨q0, q1, q2, q3, q4, q5, q6, q7, q8, q9, q10, q11⟩ := HX.out.cells; have hfr := HX.out.fr))
  refine bodyPost_ret (v := .tuple #[.agg rc0.cells, .int .i64 2]) ?_ rfl ⟨by rw [HD.out], ?_⟩
  · exact results_cell2 (p := 2) (u := 3) rfl _ _ b0 34 rc0.cells (0, 0) _ rfl (HX.out.put rc0) Try.underlying34 rfl rfl
  · rw [HB0.out]
    have h9 : Below b0 w w1 := HB0.out ▸ HL0.out.trans (HB1.out.mono HL0.out.size)
    repeat' apply Below.setCell
    all_goals first | exact h9 | exact Nat.le_refl _
set_option maxRecDepth 100000 in
set_option maxHeartbeats 16000000 in
theorem dec_more {A : Option Addr} {n c : Nat} {x y : Int} {t : List Int} {w : World} (hA : Byt w A n c (x :: y :: t)) (hn : n ≤ 100000) (hs : ¬ (t.length : Int) < x * 256 + y) (hs2 : x * 256 + y < (t.length : Int)) : Calls Try.prog 19 #[.slice A n c] w (DecP (x :: y :: t) w) := by
  obtain ⟨L, hL, hL0, hx, hLs⟩ := rec_world w rc0
  obtain ⟨b0, hb0⟩ : ∃ b0, w.heap.size = b0 := ⟨_, rfl⟩
  rw [hb0] at hx
  have hni : (n : Int) ≤ 100000 := by omega
  have HX := Lib.hid hx; have HL0 := Lib.hid hL0; have HB0 := Lib.hid hb0; have HLS : Hid (L.heap.size = b0 + 1) := Lib.hid (by omega)
  simp only [Rc.cells, rc0] at hL
  clear hx hL0 hLs
  have hext := fun w' (hb : Below w.heap.size w w') => extent_any (hA.below hb) hn
  have hl := hA.len
  simp only [List.length_cons] at hl
  have HA := Lib.hid hA
  have hd : decR (x :: y :: t) = (rc0, 3) := by
    simp only [decR]
    rw [if_neg hs, if_pos hs2]
  have HD := Lib.hid hd
  simp only [if_neg hs] at hext
  have HE := Lib.hid hext
  obtain ⟨N, hN⟩ : ∃ N, 2 + x * 256 + y = N := ⟨_, rfl⟩
  rw [hN] at HE
  have hlt : N < (n : Int) := by omega
  clear hext hs hs2 hl hN
  clear hd hA
  go_enter Try.func19, Try.ntmps19
  go_wp2_with (first
    | (go_at_call 32; refine (HE.out _ HL0.out).mono ?_; rintro e w1 ⟨rfl, hb1⟩; have HB1 := Lib.hid hb1; have HX := Lib.hid (HX.out.below hb1 (by have := HLS.out; omega)); clear hb1; obtain ⟨q0, q1, q2, q3, q4, q5, q6, q7, q8, q9, q10, q11⟩ := HX.out.cells; have hfr := HX.out.fr))
  refine bodyPost_ret (v := .tuple #[.agg rc0.cells, .int .i64 3]) ?_ rfl ⟨by rw [HD.out], ?_⟩
  · exact results_cell2 (p := 2) (u := 3) rfl _ _ b0 34 rc0.cells (0, 0) _ rfl (HX.out.put rc0) Try.underlying34 rfl rfl
  · rw [HB0.out]
    have h9 : Below b0 w w1 := HB0.out ▸ HL0.out.trans (HB1.out.mono HL0.out.size)
    repeat' apply Below.setCell
    all_goals first | exact h9 | exact Nat.le_refl _
theorem unp_size {v : List Int} (h : unpE v = 0) : (S (unpL v)).size ≤ 15 := by
  rw [S_size]
  unfold unpE at h
  unfold unpL
  split at h
  · rename_i hc
    rw [if_pos hc]
    simp only [Bool.and_eq_true] at hc
    have := hc.2
    simp only [numB, Bool.and_eq_true, decide_eq_true_eq] at this
    exact this.1.2
  · exact absurd h (by decide)
theorem set_size {r r' : Rc} {t : Int} {v : List Int} (h : setM r t v = some r') (h1 : r.sa.size ≤ 15) (h2 : r.sb.size ≤ 15) : r'.sa.size ≤ 15 ∧ r'.sb.size ≤ 15 := by
  unfold setM at h
  by_cases c4 : t = 4
  · rw [if_pos c4] at h
    by_cases hu : unpE v = 0
    · rw [if_pos hu] at h; obtain rfl := Option.some.inj h; exact ⟨unp_size hu, h2⟩
    · rw [if_neg hu] at h; cases h
  rw [if_neg c4] at h
  by_cases c5 : t = 5
  · rw [if_pos c5] at h
    by_cases hu : unpE v = 0
    · rw [if_pos hu] at h; obtain rfl := Option.some.inj h; exact ⟨h1, unp_size hu⟩
    · rw [if_neg hu] at h; cases h
  rw [if_neg c5] at h
  by_cases c11 : t = 11
  · rw [if_pos c11] at h
    by_cases hu : v.length = 1 ∧ 1 ≤ v.headD 0 ∧ v.headD 0 ≤ 3
    · rw [if_pos hu] at h; obtain rfl := Option.some.inj h; exact ⟨h1, h2⟩
    · rw [if_neg hu] at h; cases h
  rw [if_neg c11] at h
  by_cases hok : numOk v = true
  · rw [if_pos hok] at h
    by_cases c1 : t = 1
    · rw [if_pos c1] at h; obtain rfl := Option.some.inj h; exact ⟨h1, h2⟩
    rw [if_neg c1] at h
    by_cases c2 : t = 2
    · rw [if_pos c2] at h; obtain rfl := Option.some.inj h; exact ⟨h1, h2⟩
    rw [if_neg c2] at h
    by_cases c3 : t = 3
    · rw [if_pos c3] at h; obtain rfl := Option.some.inj h; exact ⟨h1, h2⟩
    rw [if_neg c3] at h
    by_cases c6 : t = 6
    · rw [if_pos c6] at h; obtain rfl := Option.some.inj h; exact ⟨h1, h2⟩
    rw [if_neg c6] at h
    by_cases c7 : t = 7
    · rw [if_pos c7] at h; obtain rfl := Option.some.inj h; exact ⟨h1, h2⟩
    rw [if_neg c7] at h
    by_cases c8 : t = 8
    · rw [if_pos c8] at h; obtain rfl := Option.some.inj h; exact ⟨h1, h2⟩
    rw [if_neg c8] at h
    by_cases c9 : t = 9
    · rw [if_pos c9] at h; obtain rfl := Option.some.inj h; exact ⟨h1, h2⟩
    rw [if_neg c9] at h
    by_cases c10 : t = 10
    · rw [if_pos c10] at h; obtain rfl := Option.some.inj h; exact ⟨h1, h2⟩
    rw [if_neg c10] at h
    cases h
  · rw [if_neg hok] at h; cases h
theorem rec_size : ∀ {es : List El} {r r' : Rc}, recM r es = some r' → r.sa.size ≤ 15 → r.sb.size ≤ 15 → r'.sa.size ≤ 15 ∧ r'.sb.size ≤ 15
  | [], r, r', h, h1, h2 => by obtain rfl := Option.some.inj h; exact ⟨h1, h2⟩
  | e :: t, r, r', h, h1, h2 => by
    rw [recM] at h
    cases hs : setM r e.1 e.2 with
    | none => rw [hs] at h; cases h
    | some q =>
      rw [hs] at h
      have := set_size hs h1 h2
      exact rec_size h this.1 this.2
theorem dec_fit {x y : Int} {t : List Int} (hs : ¬ (t.length : Int) < x * 256 + y) (hs2 : ¬ x * 256 + y < (t.length : Int)) : decR (x :: y :: t) = if (elmR t).2 ≠ 0 then (rc0, (elmR t).2) else match recM rc0 (elmR t).1 with
      | none => (rc0, 1)
      | some r => if chkR r ≠ 0 then (rc0, chkR r) else (r, 0) := by
  simp only [decR]
  rw [if_neg hs, if_neg hs2]
  rfl
set_option maxRecDepth 100000 in
set_option maxHeartbeats 16000000 in
theorem dec_bad {A : Option Addr} {n c : Nat} {x y : Int} {t : List Int} {w : World} (hA : Byt w A n c (x :: y :: t)) (hn : n ≤ 100000) (hs : ¬ (t.length : Int) < x * 256 + y) (hs2 : ¬ x * 256 + y < (t.length : Int)) (hc2 : c ≠ 2) {E : Int} (he : (elmR t).2 = E) (h0 : E ≠ 0) : Calls Try.prog 19 #[.slice A n c] w (DecP (x :: y :: t) w) := by
  obtain ⟨L, hL, hL0, hx, hLs⟩ := rec_world w rc0
  obtain ⟨b0, hb0⟩ : ∃ b0, w.heap.size = b0 := ⟨_, rfl⟩
  rw [hb0] at hx
  have hni : (n : Int) ≤ 100000 := by omega
  have HX := Lib.hid hx; have HL0 := Lib.hid hL0; have HB0 := Lib.hid hb0; have HLS : Hid (L.heap.size = b0 + 1) := Lib.hid (by omega)
  simp only [Rc.cells, rc0] at hL
  clear hx hL0 hLs
  have hext := fun w' (hb : Below w.heap.size w w') => extent_any (hA.below hb) hn
  have hl := hA.len
  simp only [List.length_cons] at hl
  have HA := Lib.hid hA
  have hd : decR (x :: y :: t) = (rc0, E) := by
    rw [dec_fit hs hs2]
    rw [he, if_pos h0]
  have HD := Lib.hid hd
  simp only [if_neg hs] at hext
  rw [show 2 + x * 256 + y = (n : Int) by omega] at hext
  have HE := Lib.hid hext
  obtain ⟨b, off, x9, rfl, -, -, -⟩ := hA.at (k := 0) (by omega)
  have HQ := Lib.hid (byt_drop hA 2 (by omega))
  simp only [List.drop_succ_cons, List.drop_zero] at HQ
  have hcap := hA.cap
  have hmax := hA.max
  have h2n : (2 : Int) ≤ (n : Int) := by omega
  have hcn : (n : Int) ≤ (c : Int) := by omega
  have HTL : Hid (t.length ≤ 100000) := Lib.hid (by omega)
  have HEL := Lib.hid (elm_le (t.length + 1) t 0)
  unfold maxLen at hmax
  clear hext hs hs2 hl
  have HX2 := Lib.hid he; have HX3 := Lib.hid h0
  have h0b : (E != 0) = true := by simp [h0]
  clear he h0
  clear hd hA
  go_enter Try.func19, Try.ntmps19
  go_wp2_with (first
    | (go_at_call 32; refine (HE.out _ HL0.out).mono ?_; rintro e w1 ⟨rfl, hb1⟩; have HB1 := Lib.hid hb1; have HX := Lib.hid (HX.out.below hb1 (by have := HLS.out; omega)); clear hb1)
    | (go_at_call 13; refine (elements_any (HQ.out.below (HL0.out.trans (HB1.out.mono HL0.out.size))) (by omega)).mono ?_; rintro e w2 ⟨h2, hb2⟩; rw [if_neg (by rw [HX2.out]; exact HX3.out), HX2.out] at h2; subst h2; have HB2 := Lib.hid (HB1.out.trans (hb2.mono HB1.out.size)); have HX := Lib.hid (HX.out.below hb2 (by have := HLS.out; have := HB1.out.size; omega)); clear hb2; obtain ⟨q0, q1, q2, q3, q4, q5, q6, q7, q8, q9, q10, q11⟩ := HX.out.cells; have hfr := HX.out.fr))
  refine bodyPost_ret (v := .tuple #[.agg rc0.cells, .int .i64 E]) ?_ rfl ⟨by rw [HD.out], ?_⟩
  · exact results_cell2 (p := 2) (u := 3) rfl _ _ b0 34 rc0.cells (0, 0) _ rfl (HX.out.put rc0) Try.underlying34 rfl rfl
  · rw [HB0.out]
    have h9 : Below b0 w w2 := HB0.out ▸ HL0.out.trans (HB2.out.mono HL0.out.size)
    repeat' apply Below.setCell
    all_goals first | exact h9 | exact Nat.le_refl _
set_option maxRecDepth 100000 in
set_option maxHeartbeats 16000000 in
theorem dec_form {A : Option Addr} {n c : Nat} {x y : Int} {t : List Int} {w : World} (hA : Byt w A n c (x :: y :: t)) (hn : n ≤ 100000) (hs : ¬ (t.length : Int) < x * 256 + y) (hs2 : ¬ x * 256 + y < (t.length : Int)) (hc2 : c ≠ 2) (he : (elmR t).2 = 0) (hr : recM rc0 (elmR t).1 = none) : Calls Try.prog 19 #[.slice A n c] w (DecP (x :: y :: t) w) := by
  obtain ⟨L, hL, hL0, hx, hLs⟩ := rec_world w rc0
  obtain ⟨b0, hb0⟩ : ∃ b0, w.heap.size = b0 := ⟨_, rfl⟩
  rw [hb0] at hx
  have hni : (n : Int) ≤ 100000 := by omega
  have HX := Lib.hid hx; have HL0 := Lib.hid hL0; have HB0 := Lib.hid hb0; have HLS : Hid (L.heap.size = b0 + 1) := Lib.hid (by omega)
  simp only [Rc.cells, rc0] at hL
  clear hx hL0 hLs
  have hext := fun w' (hb : Below w.heap.size w w') => extent_any (hA.below hb) hn
  have hl := hA.len
  simp only [List.length_cons] at hl
  have HA := Lib.hid hA
  have hd : decR (x :: y :: t) = (rc0, 1) := by
    rw [dec_fit hs hs2]
    rw [he, if_neg (by decide), hr]
  have HD := Lib.hid hd
  simp only [if_neg hs] at hext
  rw [show 2 + x * 256 + y = (n : Int) by omega] at hext
  have HE := Lib.hid hext
  obtain ⟨b, off, x9, rfl, -, -, -⟩ := hA.at (k := 0) (by omega)
  have HQ := Lib.hid (byt_drop hA 2 (by omega))
  simp only [List.drop_succ_cons, List.drop_zero] at HQ
  have hcap := hA.cap
  have hmax := hA.max
  have h2n : (2 : Int) ≤ (n : Int) := by omega
  have hcn : (n : Int) ≤ (c : Int) := by omega
  have HTL : Hid (t.length ≤ 100000) := Lib.hid (by omega)
  have HEL := Lib.hid (elm_le (t.length + 1) t 0)
  unfold maxLen at hmax
  clear hext hs hs2 hl
  have HX2 := Lib.hid he; have HRN := Lib.hid hr
  clear he hr
  clear hd hA
  go_enter Try.func19, Try.ntmps19
  go_wp2_with (first
    | (go_at_call 32; refine (HE.out _ HL0.out).mono ?_; rintro e w1 ⟨rfl, hb1⟩; have HB1 := Lib.hid hb1; have HX := Lib.hid (HX.out.below hb1 (by have := HLS.out; omega)); clear hb1)
    | (go_at_call 13; refine (elements_any (HQ.out.below (HL0.out.trans (HB1.out.mono HL0.out.size))) (by omega)).mono ?_; rintro e w2 ⟨h2, hb2⟩; rw [if_pos HX2.out] at h2; obtain ⟨v2, rfl, hf2⟩ := h2; obtain ⟨A1, N, c1, rfl, hN, hE2⟩ := els_n hf2; have HN2 := Lib.hid hN; have HE2 := Lib.hid hE2; have HB2 := Lib.hid (HB1.out.trans (hb2.mono HB1.out.size)); have HX := Lib.hid (HX.out.below hb2 (by have := HLS.out; have := HB1.out.size; omega)); clear hb2 hf2 hN hE2)
    | (go_at_call 33; refine (record_any HE2.out (by have := HN2.out; have := HEL.out; have := HTL.out; unfold elmR at *; omega) (fun e he => by have := elm_sizes (t.length + 1) t 0 e he; have := HTL.out; omega)).mono ?_; rintro e w3 ⟨ok, r3, rfl, hm3, hz3, hb3⟩; obtain rfl : ok = false := (by rw [HRN.out] at hm3; cases ok with | false => rfl | true => simp at hm3); obtain rfl := hz3 rfl; have HB3 := Lib.hid (HB2.out.trans (hb3.mono HB2.out.size)); have HX := Lib.hid (HX.out.below hb3 (by have := HLS.out; have := HB2.out.size; omega)); have hq := (HX.out.alloc (.cells rc0.cells 34)).cells; have hfr := (HX.out.alloc (.cells rc0.cells 34)).fr; simp only [Rc.cells, rc0] at hq hfr ⊢; obtain ⟨q0, q1, q2, q3, q4, q5, q6, q7, q8, q9, q10, q11⟩ := hq; clear hb3 hm3 hz3))
  refine bodyPost_ret (v := .tuple #[.agg rc0.cells, .int .i64 1]) ?_ rfl ⟨by rw [HD.out], ?_⟩
  · exact results_cell2 (p := 2) (u := 3) rfl _ _ b0 34 rc0.cells (0, 0) _ rfl (RcB.put rc0 (HX.out.alloc (.cells rc0.cells 34))) Try.underlying34 rfl rfl
  · rw [HB0.out]
    have h9 := HB0.out ▸ HL0.out.trans (Below.mono (HB3.out.alloc HB3.out.size (.cells rc0.cells 34)) HL0.out.size)
    repeat' apply Below.setCell
    all_goals first | exact h9 | exact Nat.le_refl _
set_option maxRecDepth 100000 in
set_option maxHeartbeats 16000000 in
theorem dec_err {A : Option Addr} {n c : Nat} {x y : Int} {t : List Int} {w : World} (hA : Byt w A n c (x :: y :: t)) (hn : n ≤ 100000) (hs : ¬ (t.length : Int) < x * 256 + y) (hs2 : ¬ x * 256 + y < (t.length : Int)) (hc2 : c ≠ 2) {E : Int} {rr : Rc} (he : (elmR t).2 = 0) (hr : recM rc0 (elmR t).1 = some rr) (hE : chkR rr = E) (h0 : E ≠ 0) : Calls Try.prog 19 #[.slice A n c] w (DecP (x :: y :: t) w) := by
  obtain ⟨L, hL, hL0, hx, hLs⟩ := rec_world w rc0
  obtain ⟨b0, hb0⟩ : ∃ b0, w.heap.size = b0 := ⟨_, rfl⟩
  rw [hb0] at hx
  have hni : (n : Int) ≤ 100000 := by omega
  have HX := Lib.hid hx; have HL0 := Lib.hid hL0; have HB0 := Lib.hid hb0; have HLS : Hid (L.heap.size = b0 + 1) := Lib.hid (by omega)
  simp only [Rc.cells, rc0] at hL
  clear hx hL0 hLs
  have hext := fun w' (hb : Below w.heap.size w w') => extent_any (hA.below hb) hn
  have hl := hA.len
  simp only [List.length_cons] at hl
  have HA := Lib.hid hA
  have hd : decR (x :: y :: t) = (rc0, E) := by
    rw [dec_fit hs hs2]
    rw [he, if_neg (by decide), hr]; simp only [hE]; rw [if_pos h0]
  have HD := Lib.hid hd
  simp only [if_neg hs] at hext
  rw [show 2 + x * 256 + y = (n : Int) by omega] at hext
  have HE := Lib.hid hext
  obtain ⟨b, off, x9, rfl, -, -, -⟩ := hA.at (k := 0) (by omega)
  have HQ := Lib.hid (byt_drop hA 2 (by omega))
  simp only [List.drop_succ_cons, List.drop_zero] at HQ
  have hcap := hA.cap
  have hmax := hA.max
  have h2n : (2 : Int) ≤ (n : Int) := by omega
  have hcn : (n : Int) ≤ (c : Int) := by omega
  have HTL : Hid (t.length ≤ 100000) := Lib.hid (by omega)
  have HEL := Lib.hid (elm_le (t.length + 1) t 0)
  unfold maxLen at hmax
  clear hext hs hs2 hl
  have hsz := rec_size hr (by decide) (by decide)
  have hck := check_any rr (by unfold maxLen; omega) (by unfold maxLen; omega)
  rw [hE] at hck
  unfold Rc.cells at hck
  have HCK := Lib.hid hck
  have HX2 := Lib.hid he; have HRN := Lib.hid hr
  have h0b : (E != 0) = true := by simp [h0]
  clear he hr hE h0 hck hsz
  clear hd hA
  go_enter Try.func19, Try.ntmps19
  go_wp2_with (first
    | (go_at_call 32; refine (HE.out _ HL0.out).mono ?_; rintro e w1 ⟨rfl, hb1⟩; have HB1 := Lib.hid hb1; have HX := Lib.hid (HX.out.below hb1 (by have := HLS.out; omega)); clear hb1)
    | (go_at_call 13; refine (elements_any (HQ.out.below (HL0.out.trans (HB1.out.mono HL0.out.size))) (by omega)).mono ?_; rintro e w2 ⟨h2, hb2⟩; rw [if_pos HX2.out] at h2; obtain ⟨v2, rfl, hf2⟩ := h2; obtain ⟨A1, N, c1, rfl, hN, hE2⟩ := els_n hf2; have HN2 := Lib.hid hN; have HE2 := Lib.hid hE2; have HB2 := Lib.hid (HB1.out.trans (hb2.mono HB1.out.size)); have HX := Lib.hid (HX.out.below hb2 (by have := HLS.out; have := HB1.out.size; omega)); clear hb2 hf2 hN hE2)
    | (go_at_call 33; refine (record_any HE2.out (by have := HN2.out; have := HEL.out; have := HTL.out; unfold elmR at *; omega) (fun e he => by have := elm_sizes (t.length + 1) t 0 e he; have := HTL.out; omega)).mono ?_; rintro e w3 ⟨ok, r3, rfl, hm3, hz3, hb3⟩; obtain ⟨rfl, rfl⟩ : ok = true ∧ r3 = rr := (by rw [HRN.out] at hm3; cases ok with | false => simp at hm3 | true => exact ⟨rfl, (by simpa using hm3.symm)⟩); have HB3 := Lib.hid (HB2.out.trans (hb3.mono HB2.out.size)); have HX := Lib.hid (HX.out.below hb3 (by have := HLS.out; have := HB2.out.size; omega)); have HK := Lib.hid (show RcB (w3.alloc (.cells r3.cells 34)) w3.heap.size r3 from heap_alloc_new _ _); have hk := HK.out.cells; simp only [Rc.cells] at hk ⊢; obtain ⟨k0, k1, k2, k3, k4, k5, k6, k7, k8, k9, k10, k11⟩ := hk; clear hb3 hm3 hz3)
    | (go_at_call 26; refine (HCK.out _).mono ?_; rintro e w4 ⟨rfl, hb4⟩; have HX := Lib.hid ((HX.out.alloc (.cells r3.cells 34)).below hb4 (heap_lt (HX.out.alloc _))); have HK := Lib.hid (HK.out.below hb4 (heap_lt HK.out)); have HB4 := Lib.hid ((HB3.out.alloc HB3.out.size (.cells r3.cells 34)).trans (hb4.mono (Nat.le_trans HB3.out.size (by rw [World.size_alloc]; omega)))); obtain ⟨k0, k1, k2, k3, k4, k5, k6, k7, k8, k9, k10, k11⟩ := HK.out.cells; clear hb4; obtain ⟨q0, q1, q2, q3, q4, q5, q6, q7, q8, q9, q10, q11⟩ := HX.out.cells; have hfr := HX.out.fr))
  refine bodyPost_ret (v := .tuple #[.agg rc0.cells, .int .i64 E]) ?_ rfl ⟨by rw [HD.out], ?_⟩
  · exact results_cell2 (p := 2) (u := 3) rfl _ _ b0 34 rc0.cells (0, 0) _ rfl (RcB.put rc0 HX.out) Try.underlying34 rfl rfl
  · rw [HB0.out]
    have h9 := HB0.out ▸ HL0.out.trans (Below.mono HB4.out HL0.out.size)
    repeat' apply Below.setCell
    all_goals first | exact h9 | exact Nat.le_refl _
set_option maxRecDepth 100000 in
set_option maxHeartbeats 16000000 in
theorem dec_good {A : Option Addr} {n c : Nat} {x y : Int} {t : List Int} {w : World} (hA : Byt w A n c (x :: y :: t)) (hn : n ≤ 100000) (hs : ¬ (t.length : Int) < x * 256 + y) (hs2 : ¬ x * 256 + y < (t.length : Int)) (hc2 : c ≠ 2) {rr : Rc} (he : (elmR t).2 = 0) (hr : recM rc0 (elmR t).1 = some rr) (hE : chkR rr = 0) : Calls Try.prog 19 #[.slice A n c] w (DecP (x :: y :: t) w) := by
  obtain ⟨L, hL, hL0, hx, hLs⟩ := rec_world w rc0
  obtain ⟨b0, hb0⟩ : ∃ b0, w.heap.size = b0 := ⟨_, rfl⟩
  rw [hb0] at hx
  have hni : (n : Int) ≤ 100000 := by omega
  have HX := Lib.hid hx; have HL0 := Lib.hid hL0; have HB0 := Lib.hid hb0; have HLS : Hid (L.heap.size = b0 + 1) := Lib.hid (by omega)
  simp only [Rc.cells, rc0] at hL
  clear hx hL0 hLs
  have hext := fun w' (hb : Below w.heap.size w w') => extent_any (hA.below hb) hn
  have hl := hA.len
  simp only [List.length_cons] at hl
  have HA := Lib.hid hA
  have hd : decR (x :: y :: t) = (rr, 0) := by
    rw [dec_fit hs hs2]
    rw [he, if_neg (by decide), hr]; simp only [hE]; rfl
  have HD := Lib.hid hd
  simp only [if_neg hs] at hext
  rw [show 2 + x * 256 + y = (n : Int) by omega] at hext
  have HE := Lib.hid hext
  obtain ⟨b, off, x9, rfl, -, -, -⟩ := hA.at (k := 0) (by omega)
  have HQ := Lib.hid (byt_drop hA 2 (by omega))
  simp only [List.drop_succ_cons, List.drop_zero] at HQ
  have hcap := hA.cap
  have hmax := hA.max
  have h2n : (2 : Int) ≤ (n : Int) := by omega
  have hcn : (n : Int) ≤ (c : Int) := by omega
  have HTL : Hid (t.length ≤ 100000) := Lib.hid (by omega)
  have HEL := Lib.hid (elm_le (t.length + 1) t 0)
  unfold maxLen at hmax
  clear hext hs hs2 hl
  have hsz := rec_size hr (by decide) (by decide)
  have hck := check_any rr (by unfold maxLen; omega) (by unfold maxLen; omega)
  rw [hE] at hck
  unfold Rc.cells at hck
  have HCK := Lib.hid hck
  have HX2 := Lib.hid he; have HRN := Lib.hid hr
  clear he hr hE hck hsz
  clear hd hA
  go_enter Try.func19, Try.ntmps19
  go_wp2_with (first
    | (go_at_call 32; refine (HE.out _ HL0.out).mono ?_; rintro e w1 ⟨rfl, hb1⟩; have HB1 := Lib.hid hb1; have HX := Lib.hid (HX.out.below hb1 (by have := HLS.out; omega)); clear hb1)
    | (go_at_call 13; refine (elements_any (HQ.out.below (HL0.out.trans (HB1.out.mono HL0.out.size))) (by omega)).mono ?_; rintro e w2 ⟨h2, hb2⟩; rw [if_pos HX2.out] at h2; obtain ⟨v2, rfl, hf2⟩ := h2; obtain ⟨A1, N, c1, rfl, hN, hE2⟩ := els_n hf2; have HN2 := Lib.hid hN; have HE2 := Lib.hid hE2; have HB2 := Lib.hid (HB1.out.trans (hb2.mono HB1.out.size)); have HX := Lib.hid (HX.out.below hb2 (by have := HLS.out; have := HB1.out.size; omega)); clear hb2 hf2 hN hE2)
    | (go_at_call 33; refine (record_any HE2.out (by have := HN2.out; have := HEL.out; have := HTL.out; unfold elmR at *; omega) (fun e he => by have := elm_sizes (t.length + 1) t 0 e he; have := HTL.out; omega)).mono ?_; rintro e w3 ⟨ok, r3, rfl, hm3, hz3, hb3⟩; obtain ⟨rfl, rfl⟩ : ok = true ∧ r3 = rr := (by rw [HRN.out] at hm3; cases ok with | false => simp at hm3 | true => exact ⟨rfl, (by simpa using hm3.symm)⟩); have HB3 := Lib.hid (HB2.out.trans (hb3.mono HB2.out.size)); have HX := Lib.hid (HX.out.below hb3 (by have := HLS.out; have := HB2.out.size; omega)); have HK := Lib.hid (show RcB (w3.alloc (.cells r3.cells 34)) w3.heap.size r3 from heap_alloc_new _ _); have hk := HK.out.cells; simp only [Rc.cells] at hk ⊢; obtain ⟨k0, k1, k2, k3, k4, k5, k6, k7, k8, k9, k10, k11⟩ := hk; clear hb3 hm3 hz3)
    | (go_at_call 26; refine (HCK.out _).mono ?_; rintro e w4 ⟨rfl, hb4⟩; have HX := Lib.hid ((HX.out.alloc (.cells r3.cells 34)).below hb4 (heap_lt (HX.out.alloc _))); have HK := Lib.hid (HK.out.below hb4 (heap_lt HK.out)); have HB4 := Lib.hid ((HB3.out.alloc HB3.out.size (.cells r3.cells 34)).trans (hb4.mono (Nat.le_trans HB3.out.size (by rw [World.size_alloc]; omega)))); obtain ⟨k0, k1, k2, k3, k4, k5, k6, k7, k8, k9, k10, k11⟩ := HK.out.cells; clear hb4; obtain ⟨q0, q1, q2, q3, q4, q5, q6, q7, q8, q9, q10, q11⟩ := HX.out.cells; have hfr := HX.out.fr))
  refine bodyPost_ret (v := .tuple #[.agg r3.cells, .int .i64 0]) ?_ rfl ⟨by rw [HD.out], ?_⟩
  · exact results_cell2 (p := 2) (u := 3) rfl _ _ b0 34 r3.cells (0, 0) _ rfl (RcB.put r3 HX.out) Try.underlying34 rfl rfl
  · rw [HB0.out]
    have h9 := HB0.out ▸ HL0.out.trans (Below.mono HB4.out HL0.out.size)
    repeat' apply Below.setCell
    all_goals first | exact h9 | exact Nat.le_refl _
set_option maxRecDepth 100000 in
set_option maxHeartbeats 16000000 in
theorem dec_nil {A : Option Addr} {n c : Nat} {x y : Int} {t : List Int} {w : World} (hA : Byt w A n c (x :: y :: t)) (hn : n ≤ 100000) (hs : ¬ (t.length : Int) < x * 256 + y) (hs2 : ¬ x * 256 + y < (t.length : Int)) (hn2 : n = 2) (hc9 : c = 2) (ht : t = []) {rr : Rc} (he : (elmR t).2 = 0) (hr : recM rc0 (elmR t).1 = some rr) {E : Int} (hE : chkR rr = E) (h0 : E ≠ 0) : Calls Try.prog 19 #[.slice A n c] w (DecP (x :: y :: t) w) := by
  obtain ⟨L, hL, hL0, hx, hLs⟩ := rec_world w rc0
  obtain ⟨b0, hb0⟩ : ∃ b0, w.heap.size = b0 := ⟨_, rfl⟩
  rw [hb0] at hx
  have hni : (n : Int) ≤ 100000 := by omega
  have HX := Lib.hid hx; have HL0 := Lib.hid hL0; have HB0 := Lib.hid hb0; have HLS : Hid (L.heap.size = b0 + 1) := Lib.hid (by omega)
  simp only [Rc.cells, rc0] at hL
  clear hx hL0 hLs
  have hext := fun w' (hb : Below w.heap.size w w') => extent_any (hA.below hb) hn
  have hl := hA.len
  simp only [List.length_cons] at hl
  have HA := Lib.hid hA
  have hd : decR (x :: y :: t) = (rc0, E) := by
    rw [dec_fit hs hs2]
    rw [he, if_neg (by decide), hr]; simp only [hE]; rw [if_pos h0]
  have HD := Lib.hid hd
  simp only [if_neg hs] at hext
  subst ht hn2 hc9
  simp only [List.length_nil] at hs hs2
  rw [show 2 + x * 256 + y = (2 : Int) by omega] at hext
  have HE := Lib.hid hext
  obtain ⟨b, off, x9, rfl, -, -, -⟩ := hA.at (k := 0) (by omega)
  have HQ := Lib.hid (show Byt w (some ⟨b, off, none⟩) 0 0 [] from byt_none (by decide) (by intro h; cases h))
  have HTL : Hid (([] : List Int).length ≤ 100000) := Lib.hid (by simp)
  have HEL := Lib.hid (elm_le (([] : List Int).length + 1) [] 0)
  clear hext hs hs2 hl
  have hsz := rec_size hr (by decide) (by decide)
  have hck := check_any rr (by unfold maxLen; omega) (by unfold maxLen; omega)
  rw [hE] at hck
  unfold Rc.cells at hck
  have HCK := Lib.hid hck
  have HX2 := Lib.hid he; have HRN := Lib.hid hr
  have h0b : (E != 0) = true := by simp [h0]
  clear he hr hE h0 hck hsz
  clear hd hA
  go_enter Try.func19, Try.ntmps19
  go_wp2_with (first
    | (go_at_call 32; refine (HE.out _ HL0.out).mono ?_; rintro e w1 ⟨rfl, hb1⟩; have HB1 := Lib.hid hb1; have HX := Lib.hid (HX.out.below hb1 (by have := HLS.out; omega)); clear hb1)
    | (go_at_call 13; refine (elements_any (HQ.out.below (HL0.out.trans (HB1.out.mono HL0.out.size))) (by omega)).mono ?_; rintro e w2 ⟨h2, hb2⟩; rw [if_pos HX2.out] at h2; obtain ⟨v2, rfl, hf2⟩ := h2; obtain ⟨A1, N, c1, rfl, hN, hE2⟩ := els_n hf2; have HN2 := Lib.hid hN; have HE2 := Lib.hid hE2; have HB2 := Lib.hid (HB1.out.trans (hb2.mono HB1.out.size)); have HX := Lib.hid (HX.out.below hb2 (by have := HLS.out; have := HB1.out.size; omega)); clear hb2 hf2 hN hE2)
    | (go_at_call 33; refine (record_any HE2.out (by have := HN2.out; have := HEL.out; have := HTL.out; unfold elmR at *; omega) (fun e he => by have := elm_sizes (([] : List Int).length + 1) [] 0 e he; have := HTL.out; omega)).mono ?_; rintro e w3 ⟨ok, r3, rfl, hm3, hz3, hb3⟩; obtain ⟨rfl, rfl⟩ : ok = true ∧ r3 = rr := (by rw [HRN.out] at hm3; cases ok with | false => simp at hm3 | true => exact ⟨rfl, (by simpa using hm3.symm)⟩); have HB3 := Lib.hid (HB2.out.trans (hb3.mono HB2.out.size)); have HX := Lib.hid (HX.out.below hb3 (by have := HLS.out; have := HB2.out.size; omega)); have HK := Lib.hid (show RcB (w3.alloc (.cells r3.cells 34)) w3.heap.size r3 from heap_alloc_new _ _); have hk := HK.out.cells; simp only [Rc.cells] at hk ⊢; obtain ⟨k0, k1, k2, k3, k4, k5, k6, k7, k8, k9, k10, k11⟩ := hk; clear hb3 hm3 hz3)
    | (go_at_call 26; refine (HCK.out _).mono ?_; rintro e w4 ⟨rfl, hb4⟩; have HX := Lib.hid ((HX.out.alloc (.cells r3.cells 34)).below hb4 (heap_lt (HX.out.alloc _))); have HK := Lib.hid (HK.out.below hb4 (heap_lt HK.out)); have HB4 := Lib.hid ((HB3.out.alloc HB3.out.size (.cells r3.cells 34)).trans (hb4.mono (Nat.le_trans HB3.out.size (by rw [World.size_alloc]; omega)))); obtain ⟨k0, k1, k2, k3, k4, k5, k6, k7, k8, k9, k10, k11⟩ := HK.out.cells; clear hb4; obtain ⟨q0, q1, q2, q3, q4, q5, q6, q7, q8, q9, q10, q11⟩ := HX.out.cells; have hfr := HX.out.fr))
  refine bodyPost_ret (v := .tuple #[.agg rc0.cells, .int .i64 E]) ?_ rfl ⟨by rw [HD.out], ?_⟩
  · exact results_cell2 (p := 2) (u := 3) rfl _ _ b0 34 rc0.cells (0, 0) _ rfl (RcB.put rc0 HX.out) Try.underlying34 rfl rfl
  · rw [HB0.out]
    have h9 := HB0.out ▸ HL0.out.trans (Below.mono HB4.out HL0.out.size)
    repeat' apply Below.setCell
    all_goals first | exact h9 | exact Nat.le_refl _
theorem decode_any {A : Option Addr} {n c : Nat} {l : List Int} {w : World} (hA : Byt w A n c l) (hn : n ≤ 100000) : Calls Try.prog 19 #[.slice A n c] w (DecP l w) := by
  have hl := hA.len
  match l, hl, hA with
  | [], hl, hA => exact dec_short hA hn (by simp at hl; omega)
  | [_], hl, hA => exact dec_short hA hn (by simp at hl; omega)
  | x :: y :: t, hl, hA =>
    simp only [List.length_cons] at hl
    by_cases h1 : (t.length : Int) < x * 256 + y
    · exact dec_torn hA hn h1
    · by_cases h2 : x * 256 + y < (t.length : Int)
      · exact dec_more hA hn h1 h2
      · by_cases hc : c = 2
        · have ht : t = [] := List.length_eq_zero_iff.1 (by have := hA.cap; omega)
          exact dec_nil (rr := rc0) (E := 6) hA hn h1 h2 (by rw [ht] at hl; simp at hl; omega) hc ht (by rw [ht]; rfl) (by rw [ht]; rfl) (by decide) (by decide)
        · by_cases he : (elmR t).2 = 0
          · cases hr : recM rc0 (elmR t).1 with
            | none => exact dec_form hA hn h1 h2 hc he hr
            | some rr =>
              by_cases hk : chkR rr = 0
              · exact dec_good hA hn h1 h2 hc he hr hk
              · exact dec_err hA hn h1 h2 hc he hr rfl hk
          · exact dec_bad hA hn h1 h2 hc rfl he
end Go.Proofs.Ytinnmnhaeejfdaa
