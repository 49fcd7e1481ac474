/- Walk: the cycles of a period in the reference. -/
import Derived.Test.YtigohhliblgdhaaDoorRefCycles
namespace Go.Proofs.YtigohhliblgdhaaDoor
open Go.RowKit

theorem touch_no {a f t k : Int} (ha : 1 ≤ a) (ha2 : a ≤ 28) (hf : 0 ≤ f) (hft : f < t) (ht : t ≤ 12622780800) (hk : -1 ≤ k) (hk2 : k ≤ 4799) (h : ¬ (mon a f ≤ k ∧ k ≤ mon a (t - 1))) :
    ¬ (st a k < st a (k + 1)) ∨ (st a k < st a (k + 1) ∧ ¬ st a k < t) ∨ (st a k < st a (k + 1) ∧ st a k < t ∧ ¬ f < st a (k + 1)) := by
  have h2 : ¬ (st a k < st a (k + 1) ∧ st a k < t ∧ f < st a (k + 1)) := fun h3 => h ((touch a f t k ha ha2 hf hft ht hk hk2).1 h3)
  omega
set_option maxHeartbeats 8000000 in
theorem refCycles_in (a f t : Int) (w : World) (ha : 1 ≤ a) (ha2 : a ≤ 28) (hf : 0 ≤ f) (hft : f < t) (ht : t ≤ 12622780800) :
    Calls Tryd.prog 25 #[.int .i64 a, .agg #[.int .i64 f, .int .i64 t]] w fun e w' => ∃ v, e = .returned v ∧ w'.ownsRow w.heap.size 37 2 v (cnt a f t) (cyc a (mon a f) (cnt a f t)) ∧ Below w.heap.size w w' := by
  obtain ⟨i0, hi0, hz0, hz1, hz2⟩ := info_parts periodInfo
  obtain ⟨h3, h4, _, _⟩ := mon_spec a f ha ha2 hf (by omega)
  obtain ⟨g3, g4, _, _⟩ := mon_spec a (t - 1) ha ha2 (by omega) (by omega)
  have hmm := mon_mono a f (t - 1) ha ha2 hf (by omega) (by omega)
  have HN : Hid ((cnt a f t : Int) = mon a (t - 1) - mon a f + 1) := by show (cnt a f t : Int) = _; unfold cnt; omega
  have HY := Lib.hid (fun k (h1 : -1 ≤ k) (h2 : k ≤ 4799) => (touch a f t k ha ha2 hf hft ht h1 h2).2)
  have HX := Lib.hid (fun k (h1 : -1 ≤ k) (h2 : k ≤ 4799) => touch_no (k := k) ha ha2 hf hft ht h1 h2)
  generalize cnt a f t = N at HN ⊢
  generalize mon a f = M at *
  generalize mon a (t - 1) = M2 at *
  have hokP : okP f t = true := okP_iff.2 ⟨hf, hft, ht⟩
  have H0 := Lib.hid (fun w => refPValid_is f t true hokP w)
  have HB := Lib.hid (Blk.new w 37 #[.int .i64 f, .int .i64 t])
  have HSB := Lib.hid (fun k => st_bd a k ha ha2)
  have ha3 : ¬ a < 1 := by omega
  have ha4 : ¬ 28 < a := by omega
  clear hokP
  go_enter Tryd.func25, Tryd.ntmps25
  go_wp2_with fail
  refine (H0.out _).mono ?_
  rintro e w1 ⟨rfl, hb1⟩
  have hB := HB.out.below hb1 (by simp)
  have hb4 : Below w.heap.size w w1 := ((Below.refl _ w).alloc (Nat.le_refl _) _).trans (hb1.mono (by simp))
  clear hb1
  go_wp2
  clear ha3 ha4
  go_loopw [5, 6, 7, 8] (fun v x d i wr => ∃ (j : Nat) (m D : Int), 0 ≤ m ∧ m ≤ 4801 ∧ Hid ((j : Int) = max 0 (min (m - 1) (M2 + 1) - M)) ∧ i = .int .i64 m ∧ x = .int .i64 (st a (m - 1)) ∧ d = .int .i64 D ∧ Hid (m ≤ 4800 → fst m = D) ∧
    wr.ownsRow (w.heap.size + 1) 37 2 v j (cyc a M j) ∧ Below w.heap.size w wr ∧ Blk wr w.heap.size 37 #[.int .i64 f, .int .i64 t]) (fun _ _ _ i _ => (4801 - intOf i).toNat)
  case atStart => exact ⟨0, 0, 0, by omega, by omega, (by show ((0 : Nat) : Int) = _; omega), rfl, by rw [st_neg a _ (by omega)], rfl, (fun _ => fst_zero), World.ownsRow_nil _ _ _ _, hb4, hB⟩
  case round =>
    clear hb4 hB
    obtain ⟨j, m, D, hm, hm2, HJ, rfl, rfl, rfl, HD, hown, hb, hB⟩ := hrel
    have c0 := hB.cell 0
    have c1 := hB.cell 1
    simp only [List.getElem?_toArray, List.getElem?_cons_zero, List.getElem?_cons_succ] at c0 c1
    have hg := hB.lt
    have hs1 := hb.size
    rcases lt_or_le' 4800 m with hend | hend
    · have hmN : j = N := by have := HN.out; have := HJ.out; omega
      subst hmN
      have hend' : ¬ m ≤ 4800 := by omega
      have HO := Lib.hid (hown.mono (Nat.le_succ _))
      have HBB := Lib.hid hb
      clear hown hB hb c0 c1
      go_wp2
      go_ret
      exact ⟨_, rfl, HO.out, HBB.out⟩
    · have hD := HD.out hend
      have fb := fst_bd m hm hend
      rw [hD] at fb
      have HY1 := HY.out (m - 1) (by omega) (by omega)
      have HX1 := HX.out (m - 1) (by omega) (by omega)
      have sb0 := HSB.out (m - 1)
      have sb1 := HSB.out m
      rw [show m - 1 + 1 = m by omega] at HY1 HX1
      have HS0 : Hid (m < 4800 → (D + a - 1) * 86400 = st a m) := fun h => by rw [st_in a m hm h, hD]
      have HS1 : Hid (m = 4800 → 12622780800 = st a m) := fun h => by rw [st_end a m (by omega)]
      have HF : Hid (m < 4800 → fst (m + 1) = D + lenI (2000 + m / 12) (m % 12 + 1)) := fun h => by rw [fst_step m hm h, hD]
      have hlb := len_bd (2000 + m / 12) (m % 12 + 1)
      have HLen := Lib.hid (fun w => refLength_any (2000 + m / 12) (m % 12 + 1) w)
      obtain ⟨l, hl⟩ : ∃ l, lenI (2000 + m / 12) (m % 12 + 1) = l := ⟨_, rfl⟩
      rw [hl] at HF hlb HLen
      have HCS := cyc_step a M j
      have HK : Hid (M ≤ m - 1 ∧ m - 1 ≤ M2 → M + j = m - 1) := fun h => by have := HJ.out; omega
      have HXY : Hid (M ≤ m - 1 ∧ m - 1 ≤ M2 → cyc a M (j + 1) = cyc a M j ++ [.int .i64 (st a (m - 1)), .int .i64 (st a m)]) := fun h => by
        rw [cyc_step, HK.out h, show m - 1 + 1 = m by omega]
      have HST : Hid (m = 4800 → st a (m - 1) + 86400 ≤ 12622780800) := fun h => by have := st_lt a (m - 1) ha ha2 (by omega) (by omega); rw [show m - 1 + 1 = m by omega, st_end a m (by omega)] at this; exact this
      obtain ⟨x, hx⟩ : ∃ x, st a (m - 1) = x := ⟨_, rfl⟩
      obtain ⟨y, hy⟩ : ∃ y, st a m = y := ⟨_, rfl⟩
      rw [hx] at HY1 HX1 sb0 HXY HST ⊢
      rw [hy] at HY1 HX1 sb1 HS0 HS1 HXY
      have HYY := Lib.hid hy
      have hown0 := Lib.hid hown
      clear hD hl hx hy HCS HD
      have hml : m < 4800 ∨ m = 4800 := by omega
      by_cases hin : M ≤ m - 1 ∧ m - 1 ≤ M2
      · obtain ⟨i1, i2, i3⟩ := HY1 hin
        have hxy := HXY.out hin
        have hk := HK.out hin
        have HCY := Lib.hid hxy
        have hjb : (j : Int) ≤ 4801 := by omega
        clear HY1 HX1 hxy hk
        rcases hml with hml | rfl
        · have hz := HS0.out hml
          have hD2 : Hid (m + 1 ≤ 4800 → fst (m + 1) = D + l) := fun _ => HF.out hml
          clear HS1
          go_wp2_with (first
            | (at_builtin; refine wpList_append_own _ rfl (.tmp 56) (.tmp 60) 41 rfl (w.heap.size + 1) 37 i0 (.agg #[.int .i64 0, .int .i64 0]) 2 16 Tryd.underlying41 hi0 hz0 hz1 hz2 rfl (by decide) _ _ _ rfl (World.ownsRow.alloc hown _) ⟨wr.heap.size, 0, none⟩ 1 1 [.int .i64 x, .int .i64 y] rfl rfl (cell_two_new' _ _ _ _) (by intro u hu; simp at hu; rcases hu with rfl | rfl <;> rfl) (by unfold maxLen; omega) (by omega) (by simp; omega) ?_; intro v4 w4 hown4 hg4 _)
            | (go_at_call 12; refine (HLen.out _).mono ?_; rintro e w2 ⟨rfl, rfl⟩))
          have hb5 : Below w.heap.size w w4 := (hb.alloc hs1 _).grown hg4 (by simp; omega) (fun g hg' => by have := (World.ownsRow.lt hown0.out g hg').1; omega)
          have hB5 := (hB.alloc (.cells #[.int .i64 x, .int .i64 y] 37)).grown hg4 (own_not hown0.out (by omega))
          go_roundw
          case rel => exact ⟨j + 1, m + 1, (D + l), by omega, by omega, (by have := HJ.out; show ((j + 1 : Nat) : Int) = _; omega), by go_num, by rw [show m + 1 - 1 = m by omega, HYY.out], rfl, hD2, by rw [HCY.out]; simpa using hown4, hb5, hB5⟩
          case measure => simp [intOf]; omega
        · have hz := HS1.out rfl
          have hD2 : Hid ((4800 : Int) + 1 ≤ 4800 → fst (4800 + 1) = D) := fun h => absurd h (by decide)
          subst hz
          clear HS0
          go_wp2_with (at_builtin; refine wpList_append_own _ rfl (.tmp 56) (.tmp 60) 41 rfl (w.heap.size + 1) 37 i0 (.agg #[.int .i64 0, .int .i64 0]) 2 16 Tryd.underlying41 hi0 hz0 hz1 hz2 rfl (by decide) _ _ _ rfl (World.ownsRow.alloc hown _) ⟨wr.heap.size, 0, none⟩ 1 1 [.int .i64 x, .int .i64 12622780800] rfl rfl (cell_two_new' _ _ _ _) (by intro u hu; simp at hu; rcases hu with rfl | rfl <;> rfl) (by unfold maxLen; omega) (by omega) (by simp; omega) ?_; intro v4 w4 hown4 hg4 _)
          have hb5 : Below w.heap.size w w4 := (hb.alloc hs1 _).grown hg4 (by simp; omega) (fun g hg' => by have := (World.ownsRow.lt hown0.out g hg').1; omega)
          have hB5 := (hB.alloc (.cells #[.int .i64 x, .int .i64 12622780800] 37)).grown hg4 (own_not hown0.out (by omega))
          go_roundw
          case rel => exact ⟨j + 1, (4800 : Int) + 1, D, by omega, by omega, (by have := HJ.out; show ((j + 1 : Nat) : Int) = _; omega), by go_num, by rw [show (4800 : Int) + 1 - 1 = (4800 : Int) by omega, HYY.out], rfl, hD2, by rw [HCY.out]; simpa using hown4, hb5, hB5⟩
          case measure => simp [intOf]
      · have hno := HX1 hin
        clear HY1 HX1 HXY HK
        rcases hml with hml | rfl
        · have hz := HS0.out hml
          have hD2 : Hid (m + 1 ≤ 4800 → fst (m + 1) = D + l) := fun _ => HF.out hml
          clear HS1
          rcases hno with n1 | ⟨n1, n2⟩ | ⟨n1, n2, n3⟩
          all_goals
            go_wp2_with (go_at_call 12; refine (HLen.out _).mono ?_; rintro e w2 ⟨rfl, rfl⟩)
            go_roundw
            case rel => exact ⟨j, m + 1, (D + l), by omega, by omega, (by have := HJ.out; show (j : Int) = _; omega), by go_num, by rw [show m + 1 - 1 = m by omega, HYY.out], rfl, hD2, hown0.out, hb, hB⟩
            case measure => simp [intOf]; omega
        · have hz := HS1.out rfl
          have hD2 : Hid ((4800 : Int) + 1 ≤ 4800 → fst (4800 + 1) = D) := fun h => absurd h (by decide)
          clear HS0
          have hxt : decide (x < t) = false := decide_eq_false (by omega)
          have hxy : decide (x < 12622780800) = true := decide_eq_true (by have := HST.out rfl; omega)
          clear hno
          go_wp2
          all_goals
            go_roundw
            case rel => exact ⟨j, (4800 : Int) + 1, D, by omega, by omega, (by have := HJ.out; show (j : Int) = _; omega), by go_num, by rw [show (4800 : Int) + 1 - 1 = 4800 by omega, HYY.out], rfl, hD2, hown0.out, hb, hB⟩
            case measure => simp [intOf]
end Go.Proofs.YtigohhliblgdhaaDoor
