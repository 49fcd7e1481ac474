/- Walk of the reference: Source of any token, Proper. -/
import Derived.Test.YtkdimbpmgngajaaDoorLxRm
import Derived.Test.YtkdimbpmgngajaaDoorLxL4
namespace Go.Proofs.YtkdimbpmgngajaaDoor.Lx
open Go Go.Lib Go.RowKit Go.Proofs.YtkdimbpmgngajaaDoor Go.Maps

/-- What Source gives, whatever the kind. -/
def SrcOf (k : Int) (X S : ByteArray) : Prop := (k = 3 ∧ S = srcB 3 X) ∨ (k ≠ 3 ∧ S = X)
set_option maxRecDepth 100000 in
set_option maxHeartbeats 8000000 in
theorem refSource_int (k : Int) (n p : Int) (x : ByteArray) (w : World) (hx : x.size ≤ 140737488351232) : Calls Tryd.prog 15 #[.agg #[.int .i64 k, .int .i64 n, .int .i64 p, .string x]] w fun e w' => ∃ S, e = .returned (.string S) ∧ SrcOf k x S ∧ S.size ≤ x.size + 2 ∧ Below w.heap.size w w' := by
  have hB : Below w.heap.size w (w.alloc (.cells #[.int .i64 k, .int .i64 n, .int .i64 p, .string x] 30)) := below_one w _
  have hT : TkB (w.alloc (.cells #[.int .i64 k, .int .i64 n, .int .i64 p, .string x] 30)) w.heap.size k n p x := TkB.new w _ _ _ _
  have HB := Lib.hid hB
  obtain ⟨⟨t0, t1, t2, t3⟩, -⟩ := hT.cells
  clear hB hT
  by_cases h3 : k = 3
  · subst h3
    have hz1 : (1 : Int) + (x.size : Int) ≤ 9223372036854775807 := by omega
    have hz2 : (1 : Int) + (x.size : Int) + 1 ≤ 9223372036854775807 := by omega
    have hz3 : (⟨#[34]⟩ ++ x : ByteArray).size = 1 + x.size := by rw [ByteArray.size_append]; rfl
    have HZ := Lib.hid hz3
    go_enter Tryd.func15, Tryd.ntmps15
    go_wp2_with fail
    go_ret
    refine ⟨_, rfl, .inl ⟨rfl, srcB_text x⟩, ?_, HB.out⟩
    rw [ByteArray.size_append, HZ.out]
    show 1 + x.size + 1 ≤ _
    omega
  · have d0 : (k == (3 : Int)) = false := by rw [beq_eq_false_iff_ne]; exact h3
    have H3 := Lib.hid h3
    clear h3
    go_enter Tryd.func15, Tryd.ntmps15
    go_wp2_with fail
    go_ret
    exact ⟨_, rfl, .inr ⟨H3.out, rfl⟩, by omega, HB.out⟩
/-- A token that its text gives back. -/
def PropF (k : Int) (X : ByteArray) : Prop := ∃ (m : Nat) (a b : Tk), k = (m : Int) ∧ scn (src m X.data.toList) = .ok [a, b] ∧ a.k = m ∧ a.tx = X.data.toList
theorem src_of {k : Int} {X S : ByteArray} (h : SrcOf k X S) {m : Nat} (hk : k = (m : Int)) : S.data.toList = src m X.data.toList := by
  rcases h with ⟨h, rfl⟩ | ⟨h, rfl⟩
  · obtain rfl : m = 3 := by omega
    rfl
  · unfold src; rw [if_neg (by omega)]
theorem refScn_form (s : ByteArray) (w : World) (hs : s.size ≤ maxLen) : Calls Tryd.prog 11 #[.string s] w fun e w' => ∃ (A : Option Addr) (n c : Nat) (q z : Int), e = .returned (.tuple #[.slice A n c, .int .i64 q, .int .i64 z]) ∧ n ≤ c ∧ c ≤ maxLen ∧ ((z = 0 ∧ ∃ D, scnP s.data.toList = .ok D ∧ D.length = n ∧ TokR w' A s.size D) ∨ (z ≠ 0 ∧ ∃ y, scnP s.data.toList = .error y)) ∧ Below w.heap.size w w' := by
  cases h : scnP s.data.toList with
  | error y =>
    obtain ⟨m, e⟩ := y
    have he : 1 ≤ e := by
      unfold scnP at h
      split at h
      · injection h with h; injection h with h1 h2; omega
      · exact (scn_err_at h).2
    exact (refScn_bad s w hs h rfl).mono (by rintro e' w' ⟨rfl, hb⟩; exact ⟨none, 0, 0, _, _, rfl, Nat.le_refl _, by decide, .inr ⟨by omega, _, rfl⟩, hb⟩)
  | ok D => exact (refScn_good s w hs h rfl).mono (by rintro e' w' ⟨A, c, rfl, h1, h2, h3, hb⟩; exact ⟨A, _, c, _, _, rfl, h1, h2, .inl ⟨rfl, D, rfl, rfl, h3⟩, hb⟩)
/-- What Proper returns. -/
def PrO (k : Int) (X : ByteArray) (w : World) (e : Ending) (w' : World) : Prop := ∃ v, e = .returned (.bool v) ∧ (v = true ↔ PropF k X ∧ X.size ≤ 200) ∧ Below w.heap.size w w'
set_option maxRecDepth 100000 in
set_option maxHeartbeats 16000000 in
theorem refProper_any (k n p : Int) (X : ByteArray) (w : World) (hx : X.size ≤ 140737488351232) : Calls Tryd.prog 13 #[.agg #[.int .i64 k, .int .i64 n, .int .i64 p, .string X]] w (PrO k X w) := by
  have hB : Below w.heap.size w (w.alloc (.cells #[.int .i64 k, .int .i64 n, .int .i64 p, .string X] 30)) := below_one w _
  have hT : TkB (w.alloc (.cells #[.int .i64 k, .int .i64 n, .int .i64 p, .string X] 30)) w.heap.size k n p X := TkB.new w _ _ _ _
  have HB := Lib.hid hB
  have HT := Lib.hid hT
  have HSR := Lib.hid (fun W => refSource_int k n p X W hx)
  clear hB
  obtain ⟨⟨t0, t1, t2, t3⟩, -⟩ := hT.cells
  clear hT
  have hxi : (X.size : Int) ≤ 140737488351232 := by omega
  go_enter Tryd.func13, Tryd.ntmps13
  go_upto_region 3 with (first
    | (go_at_call 15; (with_reducible refine (HSR.out _).mono ?_); rintro e w1 ⟨S, rfl, hS, hSz, hb1⟩; have HS := Lib.hid hS; have HT1 := Lib.hid (HT.out.below hb1); have HB1 := Lib.hid (HB.out.trans (hb1.mono HB.out.size)); have HSC := Lib.hid (fun W => refScn_form S W (by unfold maxLen; omega)); clear hS hb1 t0 t1 t2 t3)
    | (go_at_call 11; (with_reducible refine (HSC.out _).mono ?_); rintro e w2 ⟨A, n2, c2, q2, z2, rfl, hnc, hcm, hz, hb2⟩; have HT2 := Lib.hid (HT1.out.below hb2); have HB2 := Lib.hid (HB1.out.trans (hb2.mono HB1.out.size)); have HZ := Lib.hid hz; clear hz hb2; obtain ⟨⟨t0, t1, t2, t3⟩, -⟩ := HT2.out.cells))
  have HFIN : Hid (∀ (v : Bool) (m : Nat), (v = true ↔ PropF k X ∧ X.size ≤ 200) → PrO k X w (.returned (.bool v)) (w2.drewN m)) := Lib.hid fun v m h => ⟨v, rfl, h, below_drewN HB2.out m⟩
  have HPD : PropF k X ∧ X.size ≤ 200 → ∃ (m : Nat) (a b : Tk), k = (m : Int) ∧ scnP S.data.toList = .ok [a, b] ∧ a.k = m ∧ a.tx = X.data.toList := by
    rintro ⟨⟨m, a, b, hk, h1, h2, h3⟩, h200⟩
    refine ⟨m, a, b, hk, ?_, h2, h3⟩
    rw [src_of HS.out hk, scnP_small]
    · exact h1
    · have hsz : X.data.toList.length ≤ 200 := by simpa using h200
      unfold src
      split <;> simp at hsz ⊢ <;> omega
  rcases HZ.out with ⟨hz0, D, hD, hDn, hTR⟩ | ⟨hz0, y, hy⟩
  · have HN5 : Hid (¬ X.size ≤ 200 ∨ n2 ≠ 2 → ¬ (PropF k X ∧ X.size ≤ 200)) := Lib.hid (by
      rintro (h | h) hP
      · exact h hP.2
      · obtain ⟨m, a, b, _, h1, _, _⟩ := HPD hP
        rw [hD] at h1
        injection h1 with h1
        rw [h1] at hDn
        exact h hDn.symm)
    have d0 : (z2 == 0) = true := by rw [hz0]; rfl
    by_cases h200 : X.size ≤ 200
    · have d1 : (X.size : Int) ≤ 200 := by omega
      by_cases h2 : n2 = 2
      · subst h2
        obtain ⟨b, rfl, -, a0, -, -, a3⟩ := hTR 0 (by omega)
        obtain ⟨x, hx⟩ : ∃ x, D.getD 0 tk0 = x := ⟨_, rfl⟩
        obtain ⟨y, hy⟩ : ∃ y, D.getD 1 tk0 = y := ⟨_, rfl⟩
        have hDD : D = [x, y] := by
          match D, hDn with
          | [u, v], _ => rw [← hx, ← hy]; rfl
        rw [hx] at a0 a3
        obtain ⟨k1, rem, tx⟩ := x
        simp only at a0 a3
        have A0 : w2.cell? ⟨b, 0, none⟩ = some (.int .i64 k1) := a0
        have A3 : w2.cell? ⟨b, 3, none⟩ = some (.string ⟨⟨tx⟩⟩) := a3
        obtain ⟨v4, e4⟩ : ∃ v, ((k1 : Int) == k) = v := ⟨_, rfl⟩
        obtain ⟨v5, e5⟩ : ∃ v, ((⟨⟨tx⟩⟩ : ByteArray).toList == X.toList) = v := ⟨_, rfl⟩
        have HG : Hid (v4 = false ∨ v5 = false → ¬ (PropF k X ∧ X.size ≤ 200)) := Lib.hid (by
          intro h hP
          obtain ⟨m, a, b', hk, h1, h2, h3⟩ := HPD hP
          rw [hD, hDD] at h1
          injection h1 with h1
          injection h1 with h1 h1'
          subst h1
          simp only at h2 h3
          rcases h with h | h
          · rw [h] at e4
            rw [hk, h2] at e4
            simp at e4
          · rw [h, ByteArray.toList_eq, ByteArray.toList_eq] at e5
            rw [show (⟨⟨tx⟩⟩ : ByteArray).data.toList = tx from rfl, h3] at e5
            simp at e5)
        have HF : Hid (v4 = true → v5 = true → PropF k X ∧ X.size ≤ 200) := Lib.hid fun h4 h5 => by
          rw [h4] at e4
          rw [h5, ByteArray.toList_eq, ByteArray.toList_eq] at e5
          have hk := (eq_of_beq e4).symm
          have hx5 := eq_of_beq e5
          refine ⟨⟨k1, ⟨k1, rem, tx⟩, y, hk, ?_, rfl, hx5⟩, h200⟩
          rw [hDD] at hD
          have hsz : X.data.toList.length ≤ 200 := by simpa using h200
          rw [← src_of HS.out hk]
          rw [← hD]
          refine (scnP_small ?_).symm
          rw [src_of HS.out hk]
          unfold src
          split <;> simp at hsz ⊢ <;> omega
        clear hDD hD hDn hTR a0 a3 hx hy hz0 h200 HPD
        generalize (⟨⟨tx⟩⟩ : ByteArray) = TX at A3 e5
        cases v4 <;> cases v5
        all_goals
          go_quiet (fail)
          go_wp2_with fail
          go_ret
          first
            | exact HFIN.out true _ ⟨fun _ => HF.out (by trivial) (by trivial), fun _ => rfl⟩
            | exact HFIN.out false _ ⟨fun h => absurd h (by decide), fun h => absurd h (HG.out (by simp))⟩
      · have d2 : ((n2 : Int) == 2) = false := by rw [beq_eq_false_iff_ne]; omega
        have HNP := Lib.hid (HN5.out (.inr h2))
        clear hz0 h200 h2 hD hDn hTR HPD
        go_quiet (fail)
        go_wp2_with fail
        go_ret
        exact HFIN.out false _ ⟨fun h => absurd h (by decide), fun h => absurd h HNP.out⟩
    · have d1 : decide ((X.size : Int) ≤ 200) = false := decide_eq_false (by omega)
      have HNP := Lib.hid (HN5.out (.inl h200))
      clear hz0 h200 hD hDn hTR HPD
      go_quiet (fail)
      go_wp2_with fail
      go_ret
      exact HFIN.out false _ ⟨fun h => absurd h (by decide), fun h => absurd h HNP.out⟩
  · have d0 : (z2 == 0) = false := by rw [beq_eq_false_iff_ne]; exact hz0
    have HNP : Hid (¬ (PropF k X ∧ X.size ≤ 200)) := Lib.hid (fun hP => by obtain ⟨m, a, b, _, h1, _, _⟩ := HPD hP; rw [hy] at h1; cases h1)
    clear hz0 hy HPD
    go_quiet (fail)
    go_wp2_with fail
    go_ret
    exact HFIN.out false _ ⟨fun h => absurd h (by decide), fun h => absurd h HNP.out⟩
end Go.Proofs.YtkdimbpmgngajaaDoor.Lx
