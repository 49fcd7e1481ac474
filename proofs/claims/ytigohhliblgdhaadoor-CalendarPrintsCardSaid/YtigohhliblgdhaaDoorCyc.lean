/- Walks: monthly cycles in the program. -/
import Derived.Test.YtigohhliblgdhaaDoorCycM
import Derived.Test.YtigohhliblgdhaaDoorCalRefDate
namespace Go.Proofs.YtigohhliblgdhaaDoor
open Go.RowKit

theorem anchor_yes (a : Int) (w : World) (h : 1 ≤ a) (h2 : a ≤ 28) : Calls Tryd.prog 38 #[.int .i64 a] w fun e w' => e = .returned (.bool true) ∧ w = w' := by
  go_enter Tryd.func38, Tryd.ntmps38
  go_wp2
  go_ret
  exact ⟨rfl, rfl⟩
theorem anchor_no (a : Int) (w : World) (h : a < 1 ∨ 28 < a) : Calls Tryd.prog 38 #[.int .i64 a] w fun e w' => e = .returned (.bool false) ∧ w = w' := by
  rcases h with h | h
  · have h' : ¬ 1 ≤ a := by omega
    go_enter Tryd.func38, Tryd.ntmps38
    go_wp2
    go_ret
    exact ⟨rfl, rfl⟩
  · have h' : 1 ≤ a := by omega
    have h'' : ¬ a ≤ 28 := by omega
    go_enter Tryd.func38, Tryd.ntmps38
    go_wp2
    go_ret
    exact ⟨rfl, rfl⟩
theorem okA_no {a : Int} (h : okA a = false) : a < 1 ∨ 28 < a := by
  have : ¬ (1 ≤ a ∧ a ≤ 28) := fun h2 => by rw [okA_iff.2 h2] at h; cases h
  omega
theorem okT_no {t : Int} (h : okT t = false) : t < 0 ∨ (¬ t < 0 ∧ 12622780800 ≤ t) := by
  have : ¬ (0 ≤ t ∧ t < 12622780800) := fun h2 => by rw [okT_iff.2 h2] at h; cases h
  omega

theorem day_month (a m : Int) (ha : 1 ≤ a) (ha2 : a ≤ 28) (hm : 0 ≤ m) (hm2 : m < 4800) : dayV (2000 + m / 12) (m % 12 + 1) a = fst m + a - 1 ∧ dayE (2000 + m / 12) (m % 12 + 1) a = 0 := by
  have hl := len_in (y := 2000 + m / 12) (m := m % 12 + 1) (okM_iff.2 ⟨by omega, by omega, by omega, by omega⟩)
  have hk : okD (2000 + m / 12) (m % 12 + 1) a = true := okD_iff.2 ⟨ha, by omega⟩
  obtain ⟨h1, h2⟩ := day_good hk
  refine ⟨?_, h2⟩
  rw [h1]
  unfold dayI fst
  rw [show m % 12 + 1 - 1 = m % 12 by omega]
set_option maxHeartbeats 1000000 in
theorem start_any (a m : Int) (w : World) (ha : 1 ≤ a) (ha2 : a ≤ 28) (hm : -2 ≤ m) (hm2 : m ≤ 4801) :
    Calls Tryd.prog 41 #[.int .i64 a, .int .i64 m] w fun e w' => e = .returned (.int .i64 (st a m)) ∧ Below w.heap.size w w' := by
  rcases lt_or_le' m 0 with h | h
  · have HS := Lib.hid (st_neg a m h)
    go_enter Tryd.func41, Tryd.ntmps41
    go_wp2
    go_ret
    exact ⟨ret_int HS.out.symm, Below.refl _ _⟩
  · have h' : ¬ m < 0 := by omega
    rcases lt_or_le' m 4800 with h2 | h2
    · have HS := Lib.hid (st_in a m h h2)
      have HD := Lib.hid (fun w => day_any (2000 + m / 12) (m % 12 + 1) a w)
      obtain ⟨e1, e2⟩ := day_month a m ha ha2 h h2
      rw [e1, e2] at HD
      have fb := fst_bd m h (by omega)
      obtain ⟨F, hF⟩ : ∃ F, fst m = F := ⟨_, rfl⟩
      rw [hF] at HS HD fb
      have h2' : ¬ 4800 ≤ m := by omega
      clear e1 e2 hF
      go_enter Tryd.func41, Tryd.ntmps41
      go_wp2_with (go_at_call 9; refine (HD.out _).mono ?_; rintro e w1 ⟨rfl, hb⟩)
      go_ret
      exact ⟨ret_int HS.out.symm, hb⟩
    · have HS := Lib.hid (st_end a m h2)
      go_enter Tryd.func41, Tryd.ntmps41
      go_wp2
      go_ret
      exact ⟨ret_int HS.out.symm, Below.refl _ _⟩

theorem ret_pair {a b x y : Int} (h : a = x) (h2 : b = y) : Ending.returned (.agg #[.int .i64 a, .int .i64 b]) = .returned (.agg #[.int .i64 x, .int .i64 y]) := by rw [h, h2]
set_option maxHeartbeats 1000000 in
theorem cycle1_any (a m : Int) (w : World) (ha : 1 ≤ a) (ha2 : a ≤ 28) (hm : -1 ≤ m) (hm2 : m ≤ 4800) :
    Calls Tryd.prog 39 #[.int .i64 a, .int .i64 m] w fun e w' => e = .returned (.agg #[.int .i64 (st a m), .int .i64 (st a (m + 1))]) ∧ Below w.heap.size w w' := by
  have H1 := Lib.hid (fun w => start_any a m w ha ha2 (by omega) (by omega))
  have H2 := Lib.hid (fun w => start_any a (m + 1) w ha ha2 (by omega) (by omega))
  obtain ⟨x, hx⟩ : ∃ x, st a m = x := ⟨_, rfl⟩
  obtain ⟨y, hy⟩ : ∃ y, st a (m + 1) = y := ⟨_, rfl⟩
  rw [hx] at H1 ⊢
  rw [hy] at H2 ⊢
  clear hx hy
  have HB := Lib.hid (Blk.new w 37 #[.int .i64 0, .int .i64 0])
  go_enter Tryd.func39, Tryd.ntmps39
  go_wp2_with fail
  refine (H1.out _).mono ?_
  rintro e w1 ⟨rfl, hb1⟩
  go_wp2_with fail
  refine (H2.out _).mono ?_
  rintro e w2 ⟨rfl, hb2⟩
  have hb3 : Below (w.alloc (.cells #[.int .i64 0, .int .i64 0] 37)).heap.size (w.alloc (.cells #[.int .i64 0, .int .i64 0] 37)) w2 := hb1.trans (hb2.mono hb1.size)
  have hB := HB.out.below hb3 (by simp)
  have c0 := hB.cell 0
  have c1 := hB.cell 1
  have f0 := hB.frozen 0
  have f1 := hB.frozen 1
  simp only [List.getElem?_toArray, List.getElem?_cons_zero, List.getElem?_cons_succ] at c0 c1
  have hg := hB.lt
  have hb4 : Below w.heap.size w w2 := ((Below.refl _ w).alloc (Nat.le_refl _) _).trans (hb3.mono (by simp))
  clear hB hb1 hb2 hb3
  go_wp2
  exact bodyPost_ret (v := .agg #[.int .i64 x, .int .i64 y]) (by simp [results, Tryd.results39, go_sem, c0, c1, f0, f1]) rfl ⟨rfl, (hb4.setCell (by simp) _).setCell (by simp) _⟩

set_option maxHeartbeats 2000000 in
theorem monthOf_any (a t : Int) (w : World) (ha : 1 ≤ a) (ha2 : a ≤ 28) (ht : 0 ≤ t) (ht2 : t < 12622780800) :
    Calls Tryd.prog 40 #[.int .i64 a, .int .i64 t] w fun e w' => e = .returned (.int .i64 (mon a t)) ∧ Below w.heap.size w w' := by
  obtain ⟨n, hn⟩ : ∃ n, t / 86400 = n := ⟨_, rfl⟩
  have H := Lib.hid (fun w => date_in n w (by omega) (by omega))
  have hv : mon a t = (yrI n - 2000) * 12 + moI n - 1 - (if dyI n < a then 1 else 0) := by unfold mon; rw [hn]
  obtain ⟨s1, s2⟩ := date_spec n (by omega) (by omega)
  have sM := okM_iff.1 (okM_of s1)
  rw [okD_iff] at s1
  have lb := len_bd (yrI n) (moI n)
  generalize mon a t = R at hv ⊢
  generalize yrI n = y at *
  generalize moI n = m at *
  generalize dyI n = d at *
  have hd31 : d ≤ 31 := by omega
  obtain ⟨hy, hy2, hm, hm2⟩ := sM
  obtain ⟨hd, _⟩ := s1
  have HV := Lib.hid hv
  clear hv s2 lb
  have HN := Lib.hid hn
  by_cases hda : d < a
  all_goals
    clear hn
    go_enter Tryd.func40, Tryd.ntmps40
    go_wp2_with fail
    rw [HN.out]
    refine (H.out _).mono ?_
    rintro e w1 ⟨rfl, hb1⟩
    have hD := Dat.new w1 y m d
    obtain ⟨_, hc0, hc1, hc2⟩ := hD
    go_wp2
    go_ret
    refine ⟨ret_int ?_, hb1.alloc hb1.size _⟩
    rw [HV.out]
    split <;> omega
end Go.Proofs.YtigohhliblgdhaaDoor
