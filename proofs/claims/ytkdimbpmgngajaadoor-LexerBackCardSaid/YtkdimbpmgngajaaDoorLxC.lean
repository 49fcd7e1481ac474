/- Walks: the cursor's word, number, quoted, skipBlanks. -/
import Derived.Test.YtkdimbpmgngajaaDoorLxRun
import Derived.Recover
import Derived.WalkSmall
namespace Go.Proofs.YtkdimbpmgngajaaDoor.Lx
open Go Go.Lib Go.RowKit Go.Proofs.YtkdimbpmgngajaaDoor

/-- The panic of a fault. -/
def fx (p n : Nat) : List PanicEntry := [{ v := .iface 41 (.agg #[.int .i64 p, .int .i64 n]), recovered := false }]
def CoR (w w' : World) (g : Nat) (s : ByteArray) (r : Wd) : Prop := ∃ p, CO w w' g s p r
/-- What reads a token leaves: its text and what follows, or the panic. -/
def TxOut (w : World) (g : Nat) (s : ByteArray) (p : Nat) (res : Except Nat (Wd × Wd)) (e : Ending) (w' : World) : Prop := match res with
  | .error n => e = .panicked (fx p n) ∧ w.grownBy w' (some g)
  | .ok (x, r2) => ∃ X : ByteArray, e = .returned (.string X) ∧ X.data.toList = x ∧ X.size ≤ maxLen ∧ CoR w w' g s r2
def wrdT (r : Wd) : Except Nat (Wd × Wd) := if 24 < (r.takeWhile wrdB).length then .error 5 else .ok (r.takeWhile wrdB, r.dropWhile wrdB)
set_option maxHeartbeats 4000000 in
theorem word_any {w : World} {g p : Nat} {s : ByteArray} {r : Wd} (h : Cur w g s p r) :
    Calls Tryd.prog 37 #[.pointer (some ⟨g, 0, none⟩)] w (TxOut w g s p (wrdT r)) := by
  obtain ⟨c0, c1, f0, f1⟩ := h.cells
  have HR := Lib.hid (runWord_any h)
  unfold RunOut at HR
  unfold wrdT
  obtain ⟨T, hT⟩ : ∃ T, r.takeWhile wrdB = T := ⟨_, rfl⟩
  obtain ⟨D, hD⟩ : ∃ D, r.dropWhile wrdB = D := ⟨_, rfl⟩
  rw [hT, hD] at HR
  rw [hT, hD]
  clear hT hD h
  by_cases h24 : 24 < T.length
  · rw [if_pos h24]
    have H24 := Lib.hid h24
    clear h24
    go_enter Tryd.func37, Tryd.ntmps37
    go_wp2_with (go_at_call 45; (with_reducible refine HR.out.mono ?_); rintro e w1 ⟨X, rfl, hX, hXs, hC⟩; have HC := Lib.hid hC; have hXz : 24 < X.size := (by have h1 := H24.out; rw [← hX] at h1; simpa using h1); have d1 : decide ((24 : Int) < (X.size : Int)) = true := decide_eq_true (by omega); have hXm : X.size ≤ 9223372036854775807 := (by unfold maxLen at hXs; omega); clear hX hXs hC hXz)
    exact ⟨rfl, rfl, HC.out.2⟩
  · rw [if_neg h24]
    have H24 := Lib.hid h24
    clear h24
    go_enter Tryd.func37, Tryd.ntmps37
    go_wp2_with (go_at_call 45; (with_reducible refine HR.out.mono ?_); rintro e w1 ⟨X, rfl, hX, hXs, hC⟩; have HC := Lib.hid hC; have hXz : ¬ 24 < X.size := (by have h1 := H24.out; rw [← hX] at h1; simpa using h1); have d1 : decide ((24 : Int) < (X.size : Int)) = false := decide_eq_false (by omega); have hXm : X.size ≤ 9223372036854775807 := (by unfold maxLen at hXs; omega); have HX := Lib.hid (And.intro hX hXs); clear hX hXs hC hXz)
    go_ret
    exact ⟨X, rfl, HX.out.1, HX.out.2, _, HC.out⟩
def numT (r : Wd) : Except Nat (Wd × Wd) := if 16 < (r.takeWhile digB).length then .error 5 else if lowH (r.dropWhile digB) then .error 1 else .ok (r.takeWhile digB, r.dropWhile digB)
theorem lowH_hd (r : Wd) : lowH r = lowB (hdB r) := by cases r <;> rfl
set_option maxHeartbeats 4000000 in
theorem number_any {w : World} {g p : Nat} {s : ByteArray} {r : Wd} (h : Cur w g s p r) :
    Calls Tryd.prog 39 #[.pointer (some ⟨g, 0, none⟩)] w (TxOut w g s p (numT r)) := by
  obtain ⟨c0, c1, f0, f1⟩ := h.cells
  have HR := Lib.hid (runDigit_any h)
  unfold RunOut at HR
  unfold numT
  obtain ⟨T, hT⟩ : ∃ T, r.takeWhile digB = T := ⟨_, rfl⟩
  obtain ⟨D, hD⟩ : ∃ D, r.dropWhile digB = D := ⟨_, rfl⟩
  rw [hT, hD] at HR
  rw [hT, hD]
  clear hT hD h
  by_cases h24 : 16 < T.length
  · rw [if_pos h24]
    have H24 := Lib.hid h24
    clear h24
    go_enter Tryd.func39, Tryd.ntmps39
    go_wp2_with (go_at_call 45; (with_reducible refine HR.out.mono ?_); rintro e w1 ⟨X, rfl, hX, hXs, hC⟩; have HC := Lib.hid hC; have hXz : 16 < X.size := (by have h1 := H24.out; rw [← hX] at h1; simpa using h1); have d1 : decide ((16 : Int) < (X.size : Int)) = true := decide_eq_true (by omega); have hXm : X.size ≤ 9223372036854775807 := (by unfold maxLen at hXs; omega); clear hX hXs hC hXz)
    exact ⟨rfl, rfl, HC.out.2⟩
  · rw [if_neg h24]
    have H24 := Lib.hid h24
    have HIL := Lib.hid (fun W => isLetter_any (hdB D) W)
    rw [lowH_hd]
    clear h24
    cases hl : lowB (hdB D)
    · rw [hl] at HIL
      simp only [Bool.false_eq_true, if_false]
      clear hl
      go_enter Tryd.func39, Tryd.ntmps39
      go_wp2_with (first
        | (go_at_call 45; (with_reducible refine HR.out.mono ?_); rintro e w1 ⟨X, rfl, hX, hXs, hC⟩; have HC := Lib.hid hC; have HPK := Lib.hid (peek_any hC.1); have hXz : ¬ 16 < X.size := (by have h1 := H24.out; rw [← hX] at h1; simpa using h1); have d1 : decide ((16 : Int) < (X.size : Int)) = false := decide_eq_false (by omega); have hXm : X.size ≤ 9223372036854775807 := (by unfold maxLen at hXs; omega); have HX := Lib.hid (And.intro hX hXs); clear hX hXs hC hXz)
        | (go_at_call 35; (with_reducible refine HPK.out.mono ?_); rintro e w2 ⟨rfl, n2, rfl⟩)
        | (go_at_call 36; (with_reducible refine (HIL.out _).mono ?_); rintro e w3 ⟨rfl, rfl⟩))
      go_ret
      exact ⟨X, rfl, HX.out.1, HX.out.2, _, HC.out.1.drew _, gr_tr HC.out.2 (gr_dr _ _ _)⟩
    · rw [hl] at HIL
      simp only [if_true]
      clear hl
      go_enter Tryd.func39, Tryd.ntmps39
      go_wp2_with (first
        | (go_at_call 45; (with_reducible refine HR.out.mono ?_); rintro e w1 ⟨X, rfl, hX, hXs, hC⟩; have HC := Lib.hid hC; have HPK := Lib.hid (peek_any hC.1); have hXz : ¬ 16 < X.size := (by have h1 := H24.out; rw [← hX] at h1; simpa using h1); have d1 : decide ((16 : Int) < (X.size : Int)) = false := decide_eq_false (by omega); have hXm : X.size ≤ 9223372036854775807 := (by unfold maxLen at hXs; omega); have HX := Lib.hid (And.intro hX hXs); clear hX hXs hC hXz)
        | (go_at_call 35; (with_reducible refine HPK.out.mono ?_); rintro e w2 ⟨rfl, n2, rfl⟩)
        | (go_at_call 36; (with_reducible refine (HIL.out _).mono ?_); rintro e w3 ⟨rfl, rfl⟩))
      exact ⟨rfl, rfl, gr_tr HC.out.2 (gr_dr _ _ _)⟩
/-- What stands between double quotes, behind the first of them. -/
def qotT (t : Wd) : Except Nat (Wd × Wd) := match qut (t.takeWhile txtB) (t.dropWhile txtB) with
  | .error n => .error n
  | .ok (_, x, r) => .ok (x, r)
theorem qotT_hd (t : Wd) : qotT t = if hdB (t.dropWhile txtB) != 34 then .error 1 else if 200 < (t.takeWhile txtB).length then .error 5 else .ok (t.takeWhile txtB, (t.dropWhile txtB).drop 1) := by
  unfold qotT qut
  cases t.dropWhile txtB with
  | nil => rfl
  | cons b r =>
    simp only
    by_cases hb : (b == 34) = true
    · rw [if_pos hb, if_neg (show ¬ (hdB (b :: r) != 34) = true by show ¬ (!(b == 34)) = true; rw [hb]; decide)]
      by_cases h : 200 < (t.takeWhile txtB).length
      · rw [if_pos h, if_pos h]
      · rw [if_neg h, if_neg h]; rfl
    · rw [if_neg hb, if_pos (show (hdB (b :: r) != 34) = true by show (!(b == 34)) = true; simpa using hb)]
set_option maxHeartbeats 4000000 in
theorem quoted_any {w : World} {g p : Nat} {s : ByteArray} {b : UInt8} {t : Wd} (h : Cur w g s p (b :: t)) :
    Calls Tryd.prog 41 #[.pointer (some ⟨g, 0, none⟩)] w (TxOut w g s p (qotT t)) := by
  obtain ⟨c0, c1, f0, f1⟩ := h.cells
  have h1 : Cur (w.setCell ⟨g, 1, none⟩ (.int .i64 ((p + 1 : Nat) : Int))) g s (p + 1) t := h.set 1 (by simp)
  have hp9 : p + 1 ≤ 9223372036854775807 := by have := h.len; have := h.sz; unfold maxLen at this; simp at *; omega
  have hw1 : IntKind.i64.wrap ((p : Int) + 1) = ((p + 1 : Nat) : Int) := by rw [IntWalk.i64_in _ (by omega)]; omega
  have e1 : (p : Int) + 1 = ((p + 1 : Nat) : Int) := by omega
  obtain ⟨W, hW⟩ : ∃ W, w.setCell ⟨g, 1, none⟩ (.int .i64 ((p : Int) + 1)) = W := ⟨_, rfl⟩
  rw [← e1, hW] at h1
  have HG := Lib.hid (show w.grownBy W (some g) from hW ▸ gr_set _ _ _ _)
  have HR := Lib.hid (runQuotable_any h1)
  unfold RunOut at HR
  rw [qotT_hd]
  obtain ⟨T, hT⟩ : ∃ T, t.takeWhile txtB = T := ⟨_, rfl⟩
  obtain ⟨D, hD⟩ : ∃ D, t.dropWhile txtB = D := ⟨_, rfl⟩
  rw [hT, hD] at HR
  rw [hT, hD]
  have e34 : (((hdB D).toNat : Int) == (34 : Int)) = (hdB D == 34) := beq_nat (hdB D) 34 (by decide)
  clear hT hD h h1 hw1 e1
  obtain ⟨x, hx⟩ : ∃ x, (hdB D != 34) = x := ⟨_, rfl⟩
  rw [hx]
  have n34 : (((hdB D).toNat : Int) != (34 : Int)) = x := by rw [bne, e34, ← hx]; rfl
  cases x
  · simp only [Bool.false_eq_true, if_false]
    have HD := Lib.hid hx
    clear hx e34
    by_cases h24 : 200 < T.length
    · rw [if_pos h24]
      have H24 := Lib.hid h24
      clear h24
      go_enter Tryd.func41, Tryd.ntmps41
      go_wp2_with (first
        | (go_at_call 45; (with_reducible refine HR.out.mono ?_); rintro e w1 ⟨X, rfl, hX, hXs, hC⟩; have HC := Lib.hid hC; have HPK := Lib.hid (peek_any hC.1); have hXz : 200 < X.size := (by have h1 := H24.out; rw [← hX] at h1; simpa using h1); have d1 : decide ((200 : Int) < (X.size : Int)) = true := decide_eq_true (by omega); have hXm : X.size ≤ 9223372036854775807 := (by unfold maxLen at hXs; omega); clear hX hXs hC hXz)
        | (go_at_call 35; (with_reducible refine HPK.out.mono ?_); rintro e w2 ⟨rfl, n2, rfl⟩))
      exact ⟨rfl, rfl, gr_tr HG.out (gr_tr HC.out.2 (gr_dr _ _ _))⟩
    · rw [if_neg h24]
      have H24 := Lib.hid h24
      clear h24
      have hD0 : ∃ D2, D = 34 :: D2 := by
        have h1 := HD.out
        cases D with
        | nil => exact absurd h1 (by decide)
        | cons c D2 => exact ⟨D2, by rw [show c = 34 from by simpa [hdB] using h1]⟩
      obtain ⟨D2, rfl⟩ := hD0
      go_enter Tryd.func41, Tryd.ntmps41
      go_wp2_with (first
        | (go_at_call 45; (with_reducible refine HR.out.mono ?_); rintro e w1 ⟨X, rfl, hX, hXs, hC⟩; obtain ⟨P, hP⟩ : ∃ P, p + 1 + T.length = P := ⟨_, rfl⟩; rw [hP] at hC; have HC := Lib.hid hC; have HPK := Lib.hid (peek_any hC.1); have hXz : ¬ 200 < X.size := (by have h1 := H24.out; rw [← hX] at h1; simpa using h1); have d1 : decide ((200 : Int) < (X.size : Int)) = false := decide_eq_false (by omega); have hXm : X.size ≤ 9223372036854775807 := (by unfold maxLen at hXs; omega); have HX := Lib.hid (And.intro hX hXs); clear hX hXs hC hXz hP)
        | (go_at_call 35; (with_reducible refine HPK.out.mono ?_); rintro e w2 ⟨rfl, n2, rfl⟩; have HC2 := Lib.hid (HC.out.1.drew n2); clear c0 c1 f0 f1; obtain ⟨c0, c1, f0, f1⟩ := HC2.out.cells; have hP9 : P + 1 ≤ 9223372036854775807 := (by have := HC2.out.len; have h5 := HC2.out.sz; unfold maxLen at h5; simp at *; omega)))
      go_ret
      refine ⟨X, rfl, HX.out.1, HX.out.2, P + 1, ?_, ?_⟩
      · have h5 := HC2.out.set 1 (by simp)
        have h6 : IntKind.i64.wrap ((P : Int) + 1) = ((P + 1 : Nat) : Int) := by rw [IntWalk.i64_in _ (by omega)]; omega
        first
          | exact h5
          | (simpa using h5)
      · exact gr_tr HG.out (gr_tr HC.out.2 (gr_tr (gr_dr _ _ n2) (gr_set _ _ _ _)))
  · simp only [if_true]
    clear hx e34
    go_enter Tryd.func41, Tryd.ntmps41
    go_wp2_with (first
      | (go_at_call 45; (with_reducible refine HR.out.mono ?_); rintro e w1 ⟨X, rfl, hX, hXs, hC⟩; have HC := Lib.hid hC; have HPK := Lib.hid (peek_any hC.1); have hXm : X.size ≤ 9223372036854775807 := (by unfold maxLen at hXs; omega); clear hX hXs hC)
      | (go_at_call 35; (with_reducible refine HPK.out.mono ?_); rintro e w2 ⟨rfl, n2, rfl⟩))
    exact ⟨rfl, rfl, gr_tr HG.out (gr_tr HC.out.2 (gr_dr _ _ _))⟩
end Go.Proofs.YtkdimbpmgngajaaDoor.Lx
