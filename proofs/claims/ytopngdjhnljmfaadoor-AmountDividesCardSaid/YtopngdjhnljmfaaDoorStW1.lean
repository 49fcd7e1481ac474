/- Walks: ranges of a row are exchanged, and rotated. -/
import Derived.Test.YtopngdjhnljmfaaDoorStR
import Derived.RegionTactic
import Derived.BigRegion
import Derived.ChangeAlike
import Derived.IntWalk
namespace Go.Proofs.YtopngdjhnljmfaaDoor.St
open Go.RowKit

theorem at_drop {l : List Int} {k : Nat} (h : k < l.length) : l.drop k = l.getD k 0 :: l.drop (k + 1) := by
  rw [List.drop_eq_getElem_cons h]; simp [List.getD, List.getElem?_eq_getElem h]
theorem at_take {l : List Int} {k : Nat} (h : k < l.length) : l.take (k + 1) = l.take k ++ [l.getD k 0] := by
  rw [List.take_succ_eq_append_getElem h]; simp [List.getD, List.getElem?_eq_getElem h]
set_option maxRecDepth 100000 in
set_option maxHeartbeats 4000000 in
theorem swapRange_any (g N cap a b n : Nat) (P X M Y S : List Int) (fv : Value) (w0 W : World) (h : SR w0 g (P ++ X ++ M ++ Y ++ S) W) (hP : P.length = a) (hX : X.length = n) (hM : a + n + M.length = b) (hY : Y.length = n) (hN : b + n + S.length = N) (hsz : N ≤ 1000000) :
    Calls Tryd.prog 51 #[.slice (some ⟨g, 0, none⟩) N cap, .int .i64 (a : Int), .int .i64 (b : Int), .int .i64 (n : Int), fv] W fun e w' => e = .returned (.tuple #[]) ∧ SR w0 g (P ++ Y ++ M ++ X ++ S) w' := by
  have H := Lib.hid h; have HP := Lib.hid hP; have HX := Lib.hid hX; have HY := Lib.hid hY
  have hb1 : a + n ≤ b := by omega
  have hb2 : b + n ≤ N := by omega
  have HM := Lib.hid hM
  clear h hP hX hY hM hN
  go_enter Tryd.func51, Tryd.ntmps51
  go_wp2
  go_loopw [10] (fun i wr => ∃ k : Nat, k ≤ n ∧ i = .int .i64 k ∧ Hid (SR w0 g (P ++ Y.take k ++ X.drop k ++ M ++ X.take k ++ Y.drop k ++ S) wr)) (fun i _ => n - (intOf i).toNat)
  case atStart => exact ⟨0, by omega, rfl, Lib.hid (by simpa using H.out)⟩
  case round =>
    obtain ⟨k, hk, rfl, HS⟩ := hrel
    by_cases hlt : k < n
    · have eX := at_drop (show k < X.length by rw [HX.out]; exact hlt)
      have eY := at_drop (show k < Y.length by rw [HY.out]; exact hlt)
      have tX := at_take (show k < X.length by rw [HX.out]; exact hlt)
      have tY := at_take (show k < Y.length by rw [HY.out]; exact hlt)
      generalize X.getD k 0 = x at *
      generalize Y.getD k 0 = y at *
      have h1 : SR w0 g ((P ++ Y.take k) ++ x :: (X.drop (k + 1) ++ M ++ X.take k) ++ y :: (Y.drop (k + 1) ++ S)) wr := by
        have := HS.out
        rw [eX, eY] at this
        simpa using this
      obtain ⟨c1, c2, f1, f2, c3, h2⟩ := h1.swap (i := a + k) (j := b + k) (by rw [List.length_append, List.length_take, HP.out, HY.out]; omega)
        (by rw [List.length_append, List.length_append, List.length_append, List.length_take, List.length_take, List.length_drop, HP.out, HY.out, HX.out]; have := HM.out; omega)
      have HS2 : Hid (∀ n, SR w0 g (P ++ Y.take (k + 1) ++ X.drop (k + 1) ++ M ++ X.take (k + 1) ++ Y.drop (k + 1) ++ S) (((wr.setCell ⟨g, a + k, none⟩ (.int .i64 y)).setCell ⟨g, b + k, none⟩ (.int .i64 x)).drewN n)) := Lib.hid (fun n => by
        rw [tX, tY]
        simpa using h2.drewN n)
      clear eX eY tX tY h1 h2 HS
      have hlt' : (k : Int) < (n : Int) := by omega
      have h0' : (0 : Int) ≤ (k : Int) := by omega
      have wa : IntKind.i64.wrap ((a : Int) + (k : Int)) = (a : Int) + (k : Int) := IntWalk.i64_in _ (by omega)
      have wb : IntKind.i64.wrap ((b : Int) + (k : Int)) = (b : Int) + (k : Int) := IntWalk.i64_in _ (by omega)
      have pa : (0 : Int) ≤ (a : Int) + (k : Int) := by omega
      have pb : (0 : Int) ≤ (b : Int) + (k : Int) := by omega
      have qa : (a : Int) + (k : Int) < (N : Int) := by omega
      have qb : (b : Int) + (k : Int) < (N : Int) := by omega
      have ta : ((a : Int) + (k : Int)).toNat = a + k := by omega
      have tb : ((b : Int) + (k : Int)).toNat = b + k := by omega
      have hk1 : (k : Int) + 1 ≤ 1000000 := by omega
      go_wp2
      go_region
      clear wa wb pa pb qa qb ta tb
      go_wp2
      go_roundw
      case rel => exact ⟨k + 1, by omega, by go_num, HS2.out 1⟩
      case measure => simp [intOf]; omega
    · obtain rfl : k = n := by omega
      have HS2 : Hid (SR w0 g (P ++ Y ++ M ++ X ++ S) wr) := Lib.hid (by
        have := HS.out
        rw [show X.take k = X from List.take_of_length_le (by rw [HX.out]; exact Nat.le_refl _), show Y.take k = Y from List.take_of_length_le (by rw [HY.out]; exact Nat.le_refl _), show X.drop k = [] from List.drop_eq_nil_of_le (by rw [HX.out]; exact Nat.le_refl _), show Y.drop k = [] from List.drop_eq_nil_of_le (by rw [HY.out]; exact Nat.le_refl _)] at this
        simpa using this)
      go_wp2
      go_end0
      exact ⟨rfl, HS2.out⟩
theorem cut_at (l : List Int) (k : Nat) (h : k ≤ l.length) : ∃ l1 l2, l = l1 ++ l2 ∧ l1.length = k ∧ l2.length = l.length - k :=
  ⟨l.take k, l.drop k, (List.take_append_drop k l).symm, by rw [List.length_take]; omega, by rw [List.length_drop]⟩
set_option maxRecDepth 100000 in
set_option maxHeartbeats 4000000 in
theorem rotate_any (g N cap a m b : Nat) (P X Y S : List Int) (fv : Value) (w0 W : World) (h : SR w0 g (P ++ X ++ Y ++ S) W) (hP : P.length = a) (hX : a + X.length = m) (hY : m + Y.length = b) (hX0 : 0 < X.length) (hY0 : 0 < Y.length) (hN : b + S.length = N) (hsz : N ≤ 1000000) :
    Calls Tryd.prog 48 #[.slice (some ⟨g, 0, none⟩) N cap, .int .i64 (a : Int), .int .i64 (m : Int), .int .i64 (b : Int), fv] W fun e w' => e = .returned (.tuple #[]) ∧ SR w0 g (P ++ Y ++ X ++ S) w' := by
  obtain ⟨T, hT⟩ : ∃ T, P ++ Y ++ X ++ S = T := ⟨_, rfl⟩
  have HT := Lib.hid hT
  rw [hT]
  have hm : (m : Int) - (a : Int) = ((X.length : Nat) : Int) := by omega
  have hbm : (b : Int) - (m : Int) = ((Y.length : Nat) : Int) := by omega
  have hxm : X.length ≤ m := by omega
  have hyN : m + Y.length ≤ N := by omega
  have H := Lib.hid h
  have HPl := Lib.hid (show P.length + X.length = m by omega)
  have HSl := Lib.hid (show m + Y.length + S.length = N by omega)
  obtain ⟨i0, hi0⟩ : ∃ i, X.length = i := ⟨_, rfl⟩
  obtain ⟨j0, hj0⟩ : ∃ j, Y.length = j := ⟨_, rfl⟩
  have HI0 := Lib.hid hi0; have HJ0 := Lib.hid hj0
  rw [hi0] at hm hxm hX0 HPl
  rw [hj0] at hbm hyN hY0 HSl
  have hmN : m ≤ N := by omega
  have haN : a ≤ N := by omega
  have hbN : b ≤ N := by omega
  clear h hT hP hX hY hN hi0 hj0
  go_enter Tryd.func48, Tryd.ntmps48
  go_wp2
  go_loopw [10, 11] (fun iv jv wr => ∃ (i j : Nat) (P' X' Y' S' : List Int), iv = .int .i64 i ∧ jv = .int .i64 j ∧ 0 < i ∧ 0 < j ∧ i ≤ m ∧ m + j ≤ N ∧ Hid (X'.length = i) ∧ Hid (Y'.length = j) ∧ Hid (P'.length + i = m) ∧ Hid (m + j + S'.length = N) ∧ Hid (P' ++ Y' ++ X' ++ S' = T) ∧ Hid (SR w0 g (P' ++ X' ++ Y' ++ S') wr)) (fun iv jv _ => (intOf iv).toNat + (intOf jv).toNat)
  case atStart => exact ⟨i0, j0, P, X, Y, S, rfl, rfl, hX0, hY0, hxm, hyN, HI0, HJ0, HPl, HSl, HT, H⟩
  case round =>
    clear H HT HPl HSl HI0 HJ0
    obtain ⟨i, j, P', X', Y', S', rfl, rfl, hi, hj, him, hjN, HXl, HYl, HPl, HSl, HT, HS⟩ := hrel
    rcases Nat.lt_trichotomy i j with hij | rfl | hij
    · have d1 : ((i : Int) != (j : Int)) = true := by simp; omega
      have d2 : decide ((j : Int) < (i : Int)) = false := decide_eq_false (by omega)
      obtain ⟨Y1, Y2, hYe, hY1, hY2⟩ := cut_at Y' (j - i) (by rw [HYl.out]; omega)
      rw [HYl.out] at hY2
      have HSw := Lib.hid (swapRange_any g N cap (m - i) (m + j - i) i P' X' Y1 Y2 S' fv w0 wr (by have := HS.out; rw [hYe] at this; simpa using this) (by have := HPl.out; omega) HXl.out (by omega) (by omega) (by have := HSl.out; omega) hsz)
      have HT2 : Hid (P' ++ Y1 ++ Y2 ++ (X' ++ S') = T) := Lib.hid (by rw [← HT.out, hYe]; simp)
      have HY1 := Lib.hid hY1; have HY2 := Lib.hid (show Y2.length = i by omega)
      have s1 : (m : Int) - (i : Int) = ((m - i : Nat) : Int) := by omega
      have s2 : (m : Int) + (j : Int) - (i : Int) = ((m + j - i : Nat) : Int) := by omega
      have HS2' : Hid (m + (j - i) + (X' ++ S').length = N) := Lib.hid (by rw [List.length_append, HXl.out]; have := HSl.out; omega)
      rw [← s1, ← s2] at HSw
      clear hYe hY1 hY2 HS s1 s2
      go_wp2_with (go_at_call 51; (with_reducible refine HSw.out.mono ?_); rintro e w2 ⟨rfl, h2⟩; have H2 := Lib.hid h2; clear h2)
      go_roundw
      case rel => exact ⟨i, j - i, P', Y2, Y1, X' ++ S', rfl, by congr 1; omega, hi, by omega, him, by omega, HY2, HY1, HPl, HS2', HT2, Lib.hid (by have := H2.out; simpa using this)⟩
      case measure => simp [intOf]; omega
    · have d1 : ((i : Int) != (i : Int)) = false := by simp
      have HSw := Lib.hid (swapRange_any g N cap (m - i) m i P' X' [] Y' S' fv w0 wr (by simpa using HS.out) (by have := HPl.out; omega) HXl.out (by simp; omega) HYl.out (by have := HSl.out; omega) hsz)
      have s1 : (m : Int) - (i : Int) = ((m - i : Nat) : Int) := by omega
      rw [← s1] at HSw
      have HT2 : Hid (P' ++ Y' ++ [] ++ X' ++ S' = T) := Lib.hid (by rw [← HT.out]; simp)
      rw [HT2.out] at HSw
      clear s1
      go_wp2_with (go_at_call 51; (with_reducible refine HSw.out.mono ?_); rintro e w2 ⟨rfl, h2⟩)
      go_end0
      exact ⟨rfl, h2⟩
    · have d1 : ((i : Int) != (j : Int)) = true := by simp; omega
      have d2 : decide ((j : Int) < (i : Int)) = true := decide_eq_true (by omega)
      obtain ⟨X1, X2, hXe, hX1, hX2⟩ := cut_at X' j (by rw [HXl.out]; omega)
      rw [HXl.out] at hX2
      have HSw := Lib.hid (swapRange_any g N cap (m - i) m j P' X1 X2 Y' S' fv w0 wr (by have := HS.out; rw [hXe] at this; simpa using this) (by have := HPl.out; omega) hX1 (by omega) HYl.out (by have := HSl.out; omega) hsz)
      have HT2 : Hid ((P' ++ Y') ++ X1 ++ X2 ++ S' = T) := Lib.hid (by rw [← HT.out, hXe]; simp)
      have HX1 := Lib.hid hX1; have HX2 := Lib.hid hX2
      have s1 : (m : Int) - (i : Int) = ((m - i : Nat) : Int) := by omega
      rw [← s1] at HSw
      have HP2 : Hid ((P' ++ Y').length + (i - j) = m) := Lib.hid (by rw [List.length_append, HYl.out]; have := HPl.out; omega)
      clear hXe hX1 hX2 HS s1
      go_wp2_with (go_at_call 51; (with_reducible refine HSw.out.mono ?_); rintro e w2 ⟨rfl, h2⟩; have H2 := Lib.hid h2; clear h2)
      go_roundw
      case rel => exact ⟨i - j, j, P' ++ Y', X2, X1, S', by congr 1; omega, rfl, by omega, hj, by omega, hjN, HX2, HX1, HP2, HSl, HT2, Lib.hid (by have := H2.out; simpa using this)⟩
      case measure => simp [intOf]; omega
end Go.Proofs.YtopngdjhnljmfaaDoor.St
