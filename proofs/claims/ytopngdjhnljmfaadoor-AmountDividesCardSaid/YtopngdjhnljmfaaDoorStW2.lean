/- Walk: two sorted parts of a row are merged, one of them a single element. -/
import Derived.Test.YtopngdjhnljmfaaDoorStW1
import Derived.Test.YtopngdjhnljmfaaDoorStM
import Derived.Deep.QuietTactic
import Derived.BigQuiet
namespace Go.Proofs.YtopngdjhnljmfaaDoor.St
open Go.RowKit

/-- The comparison, in every world that the sort passes through. -/
def CloOK (w0 : World) (g gb n : Nat) (r : Int → Int) : Prop :=
  ∀ d W, SR w0 g d W → ∀ x y : Int, 0 ≤ x → x < n → 0 ≤ y → y < n → ∃ z : Int,
    (∀ q, Calls Tryd.prog 32 #[.int .i64 x, .int .i64 y, .pointer (some ⟨gb, 0, none⟩)] (W.drewN q) fun e w' => e = .returned (.int .i64 z) ∧ ∃ q', w' = (W.drewN q).drewN q') ∧ decide (z < 0) = decide (r y < r x)
/-- What a merge leaves. -/
def SymOut (r : Int → Int) (w0 : World) (g : Nat) (P T S : List Int) (e : Ending) (w' : World) : Prop := e = .returned (.tuple #[]) ∧ ∃ C : List Int, C.Perm T ∧ Srt r C ∧ SR w0 g (P ++ C ++ S) w'
abbrev fnv (gb : Nat) : Value := .func (.func 32) #[] #[.pointer (some ⟨gb, 0, none⟩)]

theorem at_mid (P B S : List Int) (k : Nat) (hk : k < B.length) : (P ++ B ++ S).getD (P.length + k) 0 = B.getD k 0 := by
  simp [List.getD, List.getElem?_append_right, List.getElem?_append_left hk]
theorem SR.mid {w0 : World} {g : Nat} {P B S : List Int} {W : World} (h : SR w0 g (P ++ B ++ S) W) {k i : Nat} (hk : k < B.length) (hi : i = P.length + k) : W.cell? ⟨g, i, none⟩ = some (.int .i64 (B.getD k 0)) := by
  subst hi
  rw [h.cell (by simp; omega), at_mid P B S k hk]
set_option maxRecDepth 100000 in
set_option maxHeartbeats 8000000 in
/-- The left part is one element. -/
theorem sym_left (g gb n N cap a b : Nat) (r : Int → Int) (P B S : List Int) (x : Int) (w0 W : World) (HC : CloOK w0 g gb n r) (h : SR w0 g (P ++ x :: B ++ S) W) (hP : P.length = a) (hB : a + 1 + B.length = b) (hN : b + S.length = N) (hsz : N ≤ 1000000)
    (hsB : Srt r B) (hx : ∀ y ∈ B, x < y) (hr : ∀ y ∈ x :: B, 0 ≤ y ∧ y < n) :
    Calls Tryd.prog 43 #[.slice (some ⟨g, 0, none⟩) N cap, .int .i64 (a : Int), .int .i64 ((a : Int) + 1), .int .i64 (b : Int), fnv gb] W (SymOut r w0 g P (x :: B) S) := by
  have H := Lib.hid h; have HP := Lib.hid hP; have HB := Lib.hid hB
  have HSB := Lib.hid hsB; have HX := Lib.hid hx; have HR := Lib.hid hr; have HCl := Lib.hid HC
  have hab : a + 1 ≤ b := by omega
  have hbN : b ≤ N := by omega
  have d0 : ((a : Int) + 1 - (a : Int) == 1) = true := by simp; omega
  clear h hP hB hN hsB hx hr HC
  go_enter Tryd.func43, Tryd.ntmps43
  go_wp2
  go_loopw [10, 11] (fun iv jv wr => ∃ i j : Nat, iv = .int .i64 i ∧ jv = .int .i64 j ∧ a + 1 ≤ i ∧ i ≤ j ∧ j ≤ b ∧ Hid (∀ k, a + 1 + k < i → L r (B.getD k 0) x) ∧ Hid (∀ k, j ≤ a + 1 + k → k < B.length → L r x (B.getD k 0)) ∧ Hid (SR w0 g (P ++ x :: B ++ S) wr)) (fun iv jv _ => ((intOf jv) - (intOf iv)).toNat)
  case atStart => exact ⟨a + 1, b, by go_num, rfl, by omega, by omega, by omega, Lib.hid (fun k hk => by omega), Lib.hid (fun k hk hk' => by have := HB.out; omega), H⟩
  case round =>
    clear H
    obtain ⟨i, j, rfl, rfl, hi, hij, hj, HLo, HHi, HS⟩ := hrel
    by_cases hlt : i < j
    · obtain ⟨h, hh⟩ : ∃ h : Nat, (i + j) / 2 = h := ⟨_, rfl⟩
      have e1 : ((i : Int) + (j : Int)) / 2 = (h : Int) := by omega
      have hi1 : i ≤ h := by omega
      have hj1 : h < j := by omega
      have hlt' : (i : Int) < (j : Int) := by omega
      have hk : h - (a + 1) < B.length := by have := HB.out; omega
      have c1 : wr.cell? ⟨g, h, none⟩ = some (.int .i64 (B.getD (h - (a + 1)) 0)) := SR.mid (P := P ++ [x]) (B := B) (S := S) (by simpa using HS.out) hk (by simp [HP.out]; omega)
      have c2 : wr.cell? ⟨g, a, none⟩ = some (.int .i64 x) := SR.one (P := P) (S := B ++ S) (by simpa using HS.out) HP.out.symm
      have hm := mem_at hk
      have hxy := HX.out _ hm
      have hry := HR.out _ (List.mem_cons_of_mem x hm)
      have hrx := HR.out x (by simp)
      have HK : Hid (∀ k, B.getD (h - (a + 1)) 0 = B.getD k 0 → k = k) := Lib.hid (fun _ _ => rfl)
      have HLow : Hid (L r (B.getD (h - (a + 1)) 0) x → ∀ k, a + 1 + k < h + 1 → L r (B.getD k 0) x) := Lib.hid (fun hl k hk2 => by
        rcases Nat.lt_or_eq_of_le (show k ≤ h - (a + 1) by omega) with h1 | h1
        · exact L_trans (srt_at HSB.out h1 hk) hl
        · rw [h1]; exact hl)
      have HHigh : Hid (L r x (B.getD (h - (a + 1)) 0) → ∀ k, h ≤ a + 1 + k → k < B.length → L r x (B.getD k 0)) := Lib.hid (fun hl k hk2 hk3 => by
        rcases Nat.lt_or_eq_of_le (show h - (a + 1) ≤ k by omega) with h1 | h1
        · exact L_trans hl (srt_at HSB.out h1 hk3)
        · rw [← h1]; exact hl)
      generalize B.getD (h - (a + 1)) 0 = y at *
      obtain ⟨z, hz, hd⟩ := HCl.out _ _ HS.out y x hry.1 hry.2 hrx.1 hrx.2
      have HZ := Lib.hid hz
      obtain ⟨q1, q2⟩ := L_cross (r := r) hxy
      have h01 : (0 : Int) ≤ (h : Int) := by omega
      have h02 : (h : Int) < (N : Int) := by omega
      have h03 : (a : Int) < (N : Int) := by omega
      by_cases hd2 : r x < r y
      · have d1 : decide (z < 0) = true := by rw [hd]; exact decide_eq_true hd2
        have HL2 := Lib.hid (HLow.out (q1.1 hd2))
        clear hd hz q1 q2 hd2 hxy hry hrx hm hh HLow HHigh HK
        go_wp2
        go_quiet ((go_at_call 32; exact Calls.quiet_of (HZ.out _)))
        go_wp2
        go_roundw
        case rel => exact ⟨h + 1, j, by go_num, rfl, by omega, by omega, hj, HL2, HHi, Lib.hid (HS.out.drewN _)⟩
        case measure => simp [intOf]; omega
      · have d1 : decide (z < 0) = false := by rw [hd]; exact decide_eq_false hd2
        have HL2 := Lib.hid (HHigh.out (q2.1 hd2))
        clear hd hz q1 q2 hd2 hxy hry hrx hm hh HLow HHigh HK
        go_wp2
        go_quiet ((go_at_call 32; exact Calls.quiet_of (HZ.out _)))
        go_wp2
        go_roundw
        case rel => exact ⟨i, h, rfl, rfl, hi, by omega, by omega, HLo, HL2, Lib.hid (HS.out.drewN _)⟩
        case measure => simp [intOf]; omega
    · obtain rfl : i = j := by omega
      clear hij
      obtain ⟨B1, B2, hBe, hB1, hB2, hg1, hg2⟩ := cut2 B (i - (a + 1)) (by have := HB.out; omega)
      have HOut : Hid (∀ w', SR w0 g (P ++ (B1 ++ x :: B2) ++ S) w' → SymOut r w0 g P (x :: B) S (.returned (.tuple #[])) w') := Lib.hid (fun w' h => by
        refine ⟨rfl, B1 ++ x :: B2, by rw [hBe]; exact List.perm_middle, ?_, h⟩
        refine srt_put (by rw [← hBe]; exact HSB.out) (fun y hy => ?_) (fun y hy => ?_)
        · obtain ⟨k, hk, rfl⟩ := of_mem hy
          rw [hg1 k (by omega)]
          exact HLo.out k (by omega)
        · obtain ⟨k, hk, rfl⟩ := of_mem hy
          rw [hg2 k]
          exact HHi.out _ (by omega) (by omega))
      have HS1 : Hid (SR w0 g (P ++ B1.take 0 ++ x :: B1.drop 0 ++ B2 ++ S) wr) := Lib.hid (by have := HS.out; rw [hBe] at this; simpa using this)
      have hT : B1.length + (a + 1) = i := by omega
      have HBl : Hid (a + 1 + B1.length + B2.length = b) := Lib.hid (by have := HB.out; rw [hBe, List.length_append] at this; omega)
      have HT := Lib.hid hT
      clear hBe hB1 hB2 hg1 hg2 HLo HHi HS hT
      go_wp2
      go_loopw [13] (fun kv wx => ∃ k : Nat, kv = .int .i64 k ∧ a ≤ k ∧ k + 1 ≤ i ∧ Hid (SR w0 g (P ++ B1.take (k - a) ++ x :: B1.drop (k - a) ++ B2 ++ S) wx)) (fun kv _ => ((i : Int) - intOf kv).toNat)
      case atStart => exact ⟨a, rfl, Nat.le_refl _, hi, by rw [Nat.sub_self]; exact HS1⟩
      case round =>
        clear HS1
        obtain ⟨k, rfl, hk1, hk2, HS⟩ := hrel
        by_cases hlt2 : k + 1 < i
        · have ht : k - a < B1.length := by have := HT.out; omega
          have eB := at_drop ht
          have tB := at_take ht
          generalize B1.getD (k - a) 0 = y at *
          have h1 : SR w0 g ((P ++ B1.take (k - a)) ++ x :: [] ++ y :: (B1.drop (k - a + 1) ++ B2 ++ S)) wr := by
            have := HS.out
            rw [eB] at this
            simpa using this
          obtain ⟨c1, c2, f1, f2, c3, h2⟩ := h1.swap (i := k) (j := k + 1) (by rw [List.length_append, List.length_take, HP.out]; omega) (by rw [List.length_append, List.length_take, HP.out]; simp; omega)
          have HS2 : Hid (∀ n, SR w0 g (P ++ B1.take (k + 1 - a) ++ x :: B1.drop (k + 1 - a) ++ B2 ++ S) (((wr.setCell ⟨g, k, none⟩ (.int .i64 y)).setCell ⟨g, k + 1, none⟩ (.int .i64 x)).drewN n)) := Lib.hid (fun n => by
            rw [show k + 1 - a = k - a + 1 by omega, tB]
            simpa using h2.drewN n)
          have hltA : (k : Int) < (i : Int) - 1 := by omega
          have h0' : (0 : Int) ≤ (k : Int) := by omega
          have wa : IntKind.i64.wrap ((k : Int) + 1) = (k : Int) + 1 := IntWalk.i64_in _ (by omega)
          have pa : (0 : Int) ≤ (k : Int) + 1 := by omega
          have qa : (k : Int) < (N : Int) := by omega
          have qb : (k : Int) + 1 < (N : Int) := by omega
          have ta : ((k : Int) + 1).toNat = k + 1 := by omega
          clear eB tB h1 h2 HS ht
          go_wp2
          go_region
          clear wa pa qa qb ta
          go_wp2
          go_roundw
          case rel => exact ⟨k + 1, by go_num, by omega, by omega, Lib.hid (HS2.out 1)⟩
          case measure => simp [intOf]; omega
        · have hltA : ¬ (k : Int) < (i : Int) - 1 := by omega
          have HS2 : Hid (SR w0 g (P ++ (B1 ++ x :: B2) ++ S) wr) := Lib.hid (by
            have := HS.out
            rw [show k - a = B1.length by have := HT.out; omega, List.take_length, List.drop_length] at this
            simpa using this)
          go_wp2
          exact bodyPost_ret (results_none rfl _ _ _) rfl (HOut.out _ HS2.out)
set_option maxRecDepth 100000 in
set_option maxHeartbeats 8000000 in
/-- The right part is one element. -/
theorem sym_right (g gb n N cap a m : Nat) (r : Int → Int) (P A S : List Int) (y : Int) (w0 W : World) (HC : CloOK w0 g gb n r) (h : SR w0 g (P ++ A ++ y :: S) W) (hP : P.length = a) (hA : a + A.length = m) (hA2 : 2 ≤ A.length) (hN : m + 1 + S.length = N) (hsz : N ≤ 1000000)
    (hsA : Srt r A) (hx : ∀ x ∈ A, x < y) (hr : ∀ x ∈ y :: A, 0 ≤ x ∧ x < n) :
    Calls Tryd.prog 43 #[.slice (some ⟨g, 0, none⟩) N cap, .int .i64 (a : Int), .int .i64 (m : Int), .int .i64 ((m : Int) + 1), fnv gb] W (SymOut r w0 g P (A ++ [y]) S) := by
  have H := Lib.hid h; have HP := Lib.hid hP; have HA := Lib.hid hA
  have HSA := Lib.hid hsA; have HX := Lib.hid hx; have HR := Lib.hid hr; have HCl := Lib.hid HC
  have ham : a + 2 ≤ m := by omega
  have hbN : m + 1 ≤ N := by omega
  have d0 : ((m : Int) - (a : Int) == 1) = false := by simp; omega
  have d1 : ((m : Int) + 1 - (m : Int) == 1) = true := by simp; omega
  clear h hP hA hN hsA hx hr HC hA2
  go_enter Tryd.func43, Tryd.ntmps43
  go_wp2
  go_loopw [14, 15] (fun iv jv wr => ∃ i j : Nat, iv = .int .i64 i ∧ jv = .int .i64 j ∧ a ≤ i ∧ i ≤ j ∧ j ≤ m ∧ Hid (∀ k, a + k < i → L r (A.getD k 0) y) ∧ Hid (∀ k, j ≤ a + k → k < A.length → L r y (A.getD k 0)) ∧ Hid (SR w0 g (P ++ A ++ y :: S) wr)) (fun iv jv _ => ((intOf jv) - (intOf iv)).toNat)
  case atStart => exact ⟨a, m, rfl, rfl, Nat.le_refl _, by omega, Nat.le_refl _, Lib.hid (fun k hk => by omega), Lib.hid (fun k hk hk' => by have := HA.out; omega), H⟩
  case round =>
    clear H
    obtain ⟨i, j, rfl, rfl, hi, hij, hj, HLo, HHi, HS⟩ := hrel
    by_cases hlt : i < j
    · obtain ⟨h, hh⟩ : ∃ h : Nat, (i + j) / 2 = h := ⟨_, rfl⟩
      have e1 : ((i : Int) + (j : Int)) / 2 = (h : Int) := by omega
      have hi1 : i ≤ h := by omega
      have hj1 : h < j := by omega
      have hlt' : (i : Int) < (j : Int) := by omega
      have hk : h - a < A.length := by have := HA.out; omega
      have c1 : wr.cell? ⟨g, h, none⟩ = some (.int .i64 (A.getD (h - a) 0)) := SR.mid (P := P) (B := A) (S := y :: S) HS.out hk (by rw [HP.out]; omega)
      have c2 : wr.cell? ⟨g, m, none⟩ = some (.int .i64 y) := SR.one (P := P ++ A) (S := S) HS.out (by rw [List.length_append, HP.out, HA.out])
      have hm := mem_at hk
      have hxy := HX.out _ hm
      have hry := HR.out _ (List.mem_cons_of_mem y hm)
      have hrx := HR.out y (by simp)
      have HHigh : Hid (L r y (A.getD (h - a) 0) → ∀ k, h ≤ a + k → k < A.length → L r y (A.getD k 0)) := Lib.hid (fun hl k hk2 hk3 => by
        rcases Nat.lt_or_eq_of_le (show h - a ≤ k by omega) with h1 | h1
        · exact L_trans hl (srt_at HSA.out h1 hk3)
        · rw [← h1]; exact hl)
      have HLow : Hid (L r (A.getD (h - a) 0) y → ∀ k, a + k < h + 1 → L r (A.getD k 0) y) := Lib.hid (fun hl k hk2 => by
        rcases Nat.lt_or_eq_of_le (show k ≤ h - a by omega) with h1 | h1
        · exact L_trans (srt_at HSA.out h1 hk) hl
        · rw [h1]; exact hl)
      generalize A.getD (h - a) 0 = x at *
      obtain ⟨z, hz, hd⟩ := HCl.out _ _ HS.out y x hrx.1 hrx.2 hry.1 hry.2
      have HZ := Lib.hid hz
      obtain ⟨q1, q2⟩ := L_cross (r := r) hxy
      have h01 : (0 : Int) ≤ (h : Int) := by omega
      have h02 : (h : Int) < (N : Int) := by omega
      have h03 : (m : Int) < (N : Int) := by omega
      by_cases hd2 : r x < r y
      · have d1 : decide (z < 0) = true := by rw [hd]; exact decide_eq_true hd2
        have HL2 := Lib.hid (HHigh.out (q1.1 hd2))
        clear hd hz q1 q2 hd2 hxy hry hrx hm hh HLow HHigh
        go_wp2
        go_quiet ((go_at_call 32; exact Calls.quiet_of (HZ.out _)))
        go_wp2
        go_roundw
        case rel => exact ⟨i, h, rfl, rfl, hi, by omega, by omega, HLo, HL2, Lib.hid (HS.out.drewN _)⟩
        case measure => simp [intOf]; omega
      · have d1 : decide (z < 0) = false := by rw [hd]; exact decide_eq_false hd2
        have HL2 := Lib.hid (HLow.out (q2.1 hd2))
        clear hd hz q1 q2 hd2 hxy hry hrx hm hh HLow HHigh
        go_wp2
        go_quiet ((go_at_call 32; exact Calls.quiet_of (HZ.out _)))
        go_wp2
        go_roundw
        case rel => exact ⟨h + 1, j, by go_num, rfl, by omega, by omega, hj, HL2, HHi, Lib.hid (HS.out.drewN _)⟩
        case measure => simp [intOf]; omega
    · obtain rfl : i = j := by omega
      clear hij
      obtain ⟨A1, A2, hAe, hA1, hA2, hg1, hg2⟩ := cut2 A (i - a) (by have := HA.out; omega)
      have HOut : Hid (∀ w', SR w0 g (P ++ (A1 ++ y :: A2) ++ S) w' → SymOut r w0 g P (A ++ [y]) S (.returned (.tuple #[])) w') := Lib.hid (fun w' h => by
        refine ⟨rfl, A1 ++ y :: A2, ?_, ?_, h⟩
        · rw [hAe]
          have h1 : (A1 ++ y :: A2).Perm (y :: (A1 ++ A2)) := List.perm_middle
          exact h1.trans (List.perm_append_singleton y (A1 ++ A2)).symm
        refine srt_put (by rw [← hAe]; exact HSA.out) (fun x hx => ?_) (fun x hx => ?_)
        · obtain ⟨k, hk, rfl⟩ := of_mem hx
          rw [hg1 k (by omega)]
          exact HLo.out k (by omega)
        · obtain ⟨k, hk, rfl⟩ := of_mem hx
          rw [hg2 k]
          exact HHi.out _ (by omega) (by omega))
      have hAl : A2.length + i = m := by have := HA.out; omega
      have hPl : (P ++ A1).length = i := by rw [List.length_append, HP.out, hA1]; omega
      have HS1 : Hid (SR w0 g (P ++ A1 ++ A2.take (m - i) ++ y :: A2.drop (m - i) ++ S) wr) := Lib.hid (by
        have := HS.out
        rw [show m - i = A2.length by omega, List.take_length, List.drop_length]
        rw [hAe] at this
        simpa using this)
      have HAl := Lib.hid hAl
      have HPl := Lib.hid hPl
      clear hAe hA1 hA2 hg1 hg2 HLo HHi HS hAl hPl
      go_wp2
      go_loopw [17] (fun kv wx => ∃ k : Nat, kv = .int .i64 k ∧ i ≤ k ∧ k ≤ m ∧ Hid (SR w0 g (P ++ A1 ++ A2.take (k - i) ++ y :: A2.drop (k - i) ++ S) wx)) (fun kv _ => (intOf kv - (i : Int)).toNat)
      case atStart => exact ⟨m, rfl, hj, Nat.le_refl _, HS1⟩
      case round =>
        clear HS1
        obtain ⟨k, rfl, hk1, hk2, HS⟩ := hrel
        by_cases hlt2 : i < k
        · obtain ⟨k', rfl⟩ : ∃ k', k = k' + 1 := ⟨k - 1, by omega⟩
          have ht : k' - i < A2.length := by have := HAl.out; omega
          have eB := at_drop ht
          have tB := at_take ht
          generalize A2.getD (k' - i) 0 = x at *
          have h1 : SR w0 g ((P ++ A1 ++ A2.take (k' - i)) ++ x :: [] ++ y :: (A2.drop (k' - i + 1) ++ S)) wr := by
            have := HS.out
            rw [show k' + 1 - i = k' - i + 1 by omega, tB] at this
            simpa using this
          obtain ⟨c1, c2, f1, f2, c3, h2⟩ := h1.swapr (i := k') (j := k' + 1) (by rw [List.length_append, HPl.out, List.length_take]; omega) (by rw [List.length_append, HPl.out, List.length_take]; simp; omega)
          have HS2 : Hid (∀ n, SR w0 g (P ++ A1 ++ A2.take (k' - i) ++ y :: A2.drop (k' - i) ++ S) (((wr.setCell ⟨g, k' + 1, none⟩ (.int .i64 x)).setCell ⟨g, k', none⟩ (.int .i64 y)).drewN n)) := Lib.hid (fun n => by
            rw [eB]
            simpa using h2.drewN n)
          have hltA : (i : Int) < ((k' + 1 : Nat) : Int) := by omega
          have wa : IntKind.i64.wrap (((k' + 1 : Nat) : Int) - 1) = (k' : Int) := by rw [show ((k' + 1 : Nat) : Int) - 1 = (k' : Int) by omega]; exact IntWalk.i64_in _ (by omega)
          have h0' : (0 : Int) ≤ (k' : Int) := by omega
          have pa : (0 : Int) ≤ ((k' + 1 : Nat) : Int) := by omega
          have qa : (k' : Int) < (N : Int) := by omega
          have qb : ((k' + 1 : Nat) : Int) < (N : Int) := by omega
          clear eB tB h1 h2 HS ht
          go_wp2
          go_region
          clear wa pa qa qb
          go_wp2
          go_roundw
          case rel => exact ⟨k', by first | rfl | (congr 1; omega), by omega, by omega, Lib.hid (HS2.out 1)⟩
          case measure => simp [intOf]; omega
        · obtain rfl : k = i := by omega
          have HS2 : Hid (SR w0 g (P ++ (A1 ++ y :: A2) ++ S) wr) := Lib.hid (by
            have := HS.out
            rw [Nat.sub_self, List.take_zero, List.drop_zero] at this
            simpa using this)
          go_wp2
          exact bodyPost_ret (results_none rfl _ _ _) rfl (HOut.out _ HS2.out)
end Go.Proofs.YtopngdjhnljmfaaDoor.St
