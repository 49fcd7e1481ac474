/- Walk: a block of a row is sorted by insertion. -/
import Derived.Test.YtopngdjhnljmfaaDoorStW2
namespace Go.Proofs.YtopngdjhnljmfaaDoor.St
open Go.RowKit

set_option maxRecDepth 100000 in
set_option maxHeartbeats 8000000 in
theorem ins_any (g gb n N cap a b : Nat) (r : Int → Int) (P A S : List Int) (w0 W : World) (HC : CloOK w0 g gb n r) (h : SR w0 g (P ++ A ++ S) W) (hP : P.length = a) (hA : a + A.length = b) (hN : b + S.length = N) (hsz : N ≤ 1000000)
    (hx : A.Pairwise (· < ·)) (hr : ∀ x ∈ A, 0 ≤ x ∧ x < n) :
    Calls Tryd.prog 42 #[.slice (some ⟨g, 0, none⟩) N cap, .int .i64 (a : Int), .int .i64 (b : Int), fnv gb] W (SymOut r w0 g P A S) := by
  have H := Lib.hid h; have HP := Lib.hid hP; have HA := Lib.hid hA
  have HX := Lib.hid hx; have HR := Lib.hid hr; have HCl := Lib.hid HC
  have hab : a ≤ b := by omega
  have hbN : b ≤ N := by omega
  clear h hP hA hN hx hr HC
  go_enter Tryd.func42, Tryd.ntmps42
  go_wp2
  go_loopw [8] (fun iv wr => ∃ (i : Nat) (C : List Int), iv = .int .i64 i ∧ a + 1 ≤ i ∧ (i ≤ b ∨ i = a + 1) ∧ Hid (C.Perm (A.take (i - a))) ∧ Hid (Srt r C) ∧ Hid (SR w0 g (P ++ C ++ A.drop (i - a) ++ S) wr)) (fun iv _ => ((b : Int) - intOf iv).toNat)
  case atStart => exact ⟨a + 1, A.take 1, by go_num, Nat.le_refl _, .inr rfl, Lib.hid (by rw [show a + 1 - a = 1 by omega]), Lib.hid (by
      match A with
      | [] => exact List.Pairwise.nil
      | x :: A => exact List.pairwise_singleton _ _), Lib.hid (by rw [show a + 1 - a = 1 by omega, List.append_assoc P, List.take_append_drop]; exact H.out)⟩
  case round =>
    clear H
    obtain ⟨i, C, rfl, hi, hib, HPm, HSt, HS⟩ := hrel
    by_cases hlt : i < b
    · have hlt' : (i : Int) < (b : Int) := by omega
      have hiA : i - a < A.length := by have := HA.out; omega
      have eA := at_drop hiA
      have tA := at_take hiA
      have hlow : ∀ y ∈ C, y < A.getD (i - a) 0 := fun y hy => by
        have h1 := HPm.out.mem_iff.1 hy
        obtain ⟨k, hk, rfl⟩ := of_mem h1
        rw [List.length_take] at hk
        have h2 := List.pairwise_iff_getElem.1 HX.out k (i - a) (by omega) hiA (by omega)
        have e1 : (A.take (i - a)).getD k 0 = A.getD k 0 := by simp [List.getD, List.getElem?_take, show k < i - a by omega]
        rw [e1]
        simpa [List.getD, List.getElem?_eq_getElem hiA, List.getElem?_eq_getElem (show k < A.length by omega)] using h2
      have hCr : ∀ y ∈ C, 0 ≤ y ∧ y < n := fun y hy => HR.out y (List.mem_of_mem_take (HPm.out.mem_iff.1 hy))
      have hxr := HR.out _ (mem_at hiA)
      have hCl : C.length + a = i := by rw [HPm.out.length_eq, List.length_take]; omega
      generalize A.getD (i - a) 0 = x at *
      have HS1 : Hid (SR w0 g (P ++ C ++ x :: [] ++ (A.drop (i - a + 1) ++ S)) wr) := Lib.hid (by have := HS.out; rw [eA] at this; simpa using this)
      have HNext : Hid (∀ C1 C2 W', C = C1 ++ C2 → (∀ y ∈ C1, L r y x) → (∀ y ∈ C2, L r x y) → SR w0 g (P ++ C1 ++ x :: C2 ++ (A.drop (i - a + 1) ++ S)) W' → ∃ C' : List Int, C'.Perm (A.take (i + 1 - a)) ∧ Srt r C' ∧ SR w0 g (P ++ C' ++ A.drop (i + 1 - a) ++ S) W') := Lib.hid (fun C1 C2 W' hc h1 h2 h3 => by
        refine ⟨C1 ++ x :: C2, ?_, srt_put (by rw [← hc]; exact HSt.out) h1 h2, ?_⟩
        · rw [show i + 1 - a = i - a + 1 by omega, tA]
          have p1 : (C1 ++ x :: C2).Perm (x :: (C1 ++ C2)) := List.perm_middle
          rw [← hc] at p1
          exact p1.trans ((List.perm_append_singleton x C).symm.trans (HPm.out.append_right [x]))
        · rw [show i + 1 - a = i - a + 1 by omega]
          simpa using h3)
      have HLow := Lib.hid hlow; have HCr := Lib.hid hCr; have HCL := Lib.hid hCl
      have hxr1 := hxr.1; have hxr2 := hxr.2
      have HXR := Lib.hid hxr
      clear eA tA hlow hCr HS HPm hCl hxr hxr1 hxr2 hiA
      go_wp2
      go_loopw [9] (fun jv wx => ∃ (j : Nat) (C1 C2 : List Int), jv = .int .i64 j ∧ a ≤ j ∧ j ≤ i ∧ Hid (C = C1 ++ C2) ∧ Hid (C1.length + a = j) ∧ Hid (∀ y ∈ C2, L r x y) ∧ Hid (SR w0 g (P ++ C1 ++ x :: C2 ++ (A.drop (i - a + 1) ++ S)) wx)) (fun jv _ => (intOf jv - (a : Int)).toNat)
      case atStart => exact ⟨i, C, [], rfl, by omega, Nat.le_refl _, Lib.hid (by simp), HCL, Lib.hid (fun y hy => by cases hy), HS1⟩
      case round =>
        clear HS1
        obtain ⟨j, C1, C2, rfl, hj1, hj2, HCe, HCl1, HC2, HS⟩ := hrel
        by_cases hja : a < j
        · obtain ⟨j', rfl⟩ : ∃ j', j = j' + 1 := ⟨j - 1, by omega⟩
          obtain ⟨D, y, hD⟩ : ∃ D y, C1 = D ++ [y] := by
            rcases List.eq_nil_or_concat C1 with h | ⟨D, y, h⟩
            · have := HCl1.out; rw [h] at this; simp at this; omega
            · exact ⟨D, y, by rw [h, List.concat_eq_append]⟩
          have hDl : D.length + a = j' := by have := HCl1.out; rw [hD] at this; simp at this; omega
          have hyC : y ∈ C := by rw [HCe.out, hD]; simp
          have hy1 := HLow.out y hyC
          have hy2 := HCr.out y hyC
          have h1 : SR w0 g ((P ++ D) ++ y :: [] ++ x :: (C2 ++ (A.drop (i - a + 1) ++ S))) wr := by have := HS.out; rw [hD] at this; simpa using this
          obtain ⟨c1, c2, f1, f2, c3, h2⟩ := h1.swapr (i := j') (j := j' + 1) (by rw [List.length_append, HP.out]; omega) (by rw [List.length_append, HP.out]; simp; omega)
          obtain ⟨z, hz, hd⟩ := HCl.out _ _ h1 x y HXR.out.1 HXR.out.2 hy2.1 hy2.2
          have HZ := Lib.hid hz
          obtain ⟨q1, q2⟩ := L_cross (r := r) hy1
          have hg1 : decide ((a : Int) < (j' : Int) + 1) = true := decide_eq_true (by omega)
          have wa : IntKind.i64.wrap ((j' : Int) + 1 - 1) = (j' : Int) := by rw [show (j' : Int) + 1 - 1 = (j' : Int) by omega]; exact IntWalk.i64_in _ (by omega)
          have wb : IntKind.i64.wrap (j' : Int) = (j' : Int) := IntWalk.i64_in _ (by omega)
          have h0' : (0 : Int) ≤ (j' : Int) := by omega
          have pa : (0 : Int) ≤ (j' : Int) + 1 := by omega
          have qa : (j' : Int) < (N : Int) := by omega
          have qb : (j' : Int) + 1 < (N : Int) := by omega
          have tb : ((j' : Int) + 1).toNat = j' + 1 := by omega
          have HC3 : Hid (C = D ++ (y :: C2)) := Lib.hid (by rw [HCe.out, hD]; simp)
          have HDl := Lib.hid hDl
          by_cases hd2 : r y < r x
          · have d1 : decide (z < 0) = true := by rw [hd]; exact decide_eq_true hd2
            have hl := q1.1 hd2
            have HC4 : Hid (∀ u ∈ y :: C2, L r x u) := Lib.hid (fun u hu => by
              rcases List.mem_cons.1 hu with rfl | hu
              · exact hl
              · exact HC2.out u hu)
            have HS2 : Hid (∀ m, SR w0 g (P ++ D ++ x :: (y :: C2) ++ (A.drop (i - a + 1) ++ S)) (((wr.drewN m).setCell ⟨g, j' + 1, none⟩ (.int .i64 y)).setCell ⟨g, j', none⟩ (.int .i64 x))) := Lib.hid (fun m => by
              have := ((h1.drewN m).swapr (i := j') (j := j' + 1) (by rw [List.length_append, HP.out]; omega) (by rw [List.length_append, HP.out]; simp; omega)).2.2.2.2.2
              simpa using this)
            clear hd hz q1 q2 hd2 hy1 hy2 hyC hD hDl h1 h2 hl
            go_wp2
            go_quiet ((go_at_call 32; exact Calls.quiet_of (HZ.out _)))
            go_wp2
            go_region
            clear wa wb pa qb tb
            go_wp2
            go_roundw
            case rel => exact ⟨j', D, y :: C2, by first | rfl | (congr 1; omega), by have := HDl.out; omega, by omega, HC3, HDl, HC4, Lib.hid (by have := HS2.out (nq + 1); simpa using this)⟩
            case measure => simp [intOf]; omega
          · have d1 : decide (z < 0) = false := by rw [hd]; exact decide_eq_false hd2
            have hl := q2.1 hd2
            have HC4 : Hid (∀ u ∈ C1, L r u x) := Lib.hid (fun u hu => by
              rw [hD] at hu
              rcases List.mem_append.1 hu with hu | hu
              · have hsC := HSt.out
                rw [HC3.out] at hsC
                exact L_trans ((srt_split hsC).2.2 u hu y (by simp)) hl
              · rw [List.mem_singleton.1 hu]; exact hl)
            clear hd hz q1 q2 hd2 hy1 hy2 hyC hD hDl h1 h2 hl
            go_wp2
            go_quiet ((go_at_call 32; exact Calls.quiet_of (HZ.out _)))
            obtain ⟨C', g1, g2, g3⟩ := HNext.out C1 C2 (wr.drewN nq) HCe.out HC4.out HC2.out (HS.out.drewN _)
            have G1 := Lib.hid g1; have G2 := Lib.hid g2; have G3 := Lib.hid g3
            clear g1 g2 g3 wa wb pa qb tb
            go_wp2
            go_roundw
            case rel => exact ⟨i + 1, C', by go_num, by omega, by omega, G1, G2, G3⟩
            case measure => simp [intOf]; omega
        · obtain rfl : j = a := by omega
          have hg1 : decide ((j : Int) < (j : Int)) = false := by simp
          have hn : C1 = [] := List.length_eq_zero_iff.1 (by have := HCl1.out; omega)
          obtain ⟨C', g1, g2, g3⟩ := HNext.out C1 C2 wr HCe.out (fun y hy => by rw [hn] at hy; cases hy) HC2.out HS.out
          have G1 := Lib.hid g1; have G2 := Lib.hid g2; have G3 := Lib.hid g3
          clear g1 g2 g3 hn
          go_wp2
          go_quiet (fail)
          go_wp2
          go_roundw
          case rel => exact ⟨i + 1, C', by go_num, by omega, by omega, G1, G2, Lib.hid (G3.out.drewN _)⟩
          case measure => simp [intOf]; omega
    · have hlt' : ¬ (i : Int) < (b : Int) := by omega
      have HOut : Hid (SymOut r w0 g P A S (.returned (.tuple #[])) wr) := Lib.hid (by
        have e1 : A.take (i - a) = A := List.take_of_length_le (by have := HA.out; omega)
        have e2 : A.drop (i - a) = [] := List.drop_eq_nil_of_le (by have := HA.out; omega)
        have h1 := HPm.out
        have h2 := HS.out
        rw [e1] at h1
        rw [e2] at h2
        exact ⟨rfl, C, h1, HSt.out, by simpa using h2⟩)
      go_wp2
      go_end0
      exact HOut.out
end Go.Proofs.YtopngdjhnljmfaaDoor.St
