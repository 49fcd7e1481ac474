/- Walks: the cycle of an instant in the reference; equal lists of periods. -/
import Derived.Test.YtigohhliblgdhaaDoorRefCycles2
import Derived.Test.YtigohhliblgdhaaDoorCalEq
namespace Go.Proofs.YtigohhliblgdhaaDoor
open Go.RowKit

/-- The first n pairs from A on are those that x and y say. -/
def Prs (w : World) (A : Option Addr) (n : Nat) (x y : Nat → Int) : Prop :=
  ∀ k, k < n → ∃ b off, A = some ⟨b, off, none⟩ ∧ b < w.heap.size ∧ w.cell? ⟨b, off + k * 2, none⟩ = some (.int .i64 (x k)) ∧ w.cell? ⟨b, off + k * 2 + 1, none⟩ = some (.int .i64 (y k))
theorem Prs.below {w w' : World} {A : Option Addr} {n : Nat} {x y : Nat → Int} (h : Prs w A n x y) (hb : Below w.heap.size w w') : Prs w' A n x y := fun k hk => by
  obtain ⟨b, off, e, hbl, h1, h2⟩ := h k hk
  exact ⟨b, off, e, Nat.lt_of_lt_of_le hbl hb.size, (hb.cell (p := ⟨b, off + k * 2, none⟩) hbl).trans h1, (hb.cell (p := ⟨b, off + k * 2 + 1, none⟩) hbl).trans h2⟩
theorem prs_cyc {w : World} {base : Nat} {a M : Int} {n : Nat} {v : Value} (h : w.ownsRow base 37 2 v n (cyc a M n)) (hn : 0 < n) :
    ∃ g c, v = .slice (some ⟨g, 0, none⟩) n c ∧ Prs w (some ⟨g, 0, none⟩) n (fun k => st a (M + k)) (fun k => st a (M + k + 1)) ∧ n ≤ c := by
  have h0 := h
  obtain ⟨_, h2⟩ := h
  rcases h2 with ⟨_, hz⟩ | ⟨g, c, cur, hv, hg, hh, hnc, hcm, hcs, htk⟩
  · omega
  · subst hv
    refine ⟨g, c, rfl, fun k hk => ⟨g, 0, rfl, ?_, ?_, ?_⟩, hnc⟩
    · exact (World.ownsRow.lt h0 g rfl).2
    · rw [Nat.zero_add, World.ownsRow.cellAt h0 (k * 2) (by omega)]; exact (cyc_at a M n k hk).1
    · rw [Nat.zero_add, World.ownsRow.cellAt h0 (k * 2 + 1) (by omega)]; exact (cyc_at a M n k hk).2

theorem cnt_one (a t : Int) : cnt a t (t + 1) = 1 := by unfold cnt; rw [show t + 1 - 1 = t by omega]; omega
theorem cnt_pos (a f t : Int) (ha : 1 ≤ a) (ha2 : a ≤ 28) (hf : 0 ≤ f) (hft : f < t) (ht : t ≤ 12622780800) : 0 < cnt a f t := by
  have := mon_mono a f (t - 1) ha ha2 hf (by omega) (by omega)
  unfold cnt; omega
theorem cnt_bd (a f t : Int) (ha : 1 ≤ a) (ha2 : a ≤ 28) (hf : 0 ≤ f) (hft : f < t) (ht : t ≤ 12622780800) : cnt a f t ≤ 4801 := by
  obtain ⟨h3, h4, _, _⟩ := mon_spec a f ha ha2 hf (by omega)
  obtain ⟨g3, g4, _, _⟩ := mon_spec a (t - 1) ha ha2 (by omega) (by omega)
  unfold cnt; omega

set_option maxHeartbeats 2000000 in
theorem refCycle_out (a t : Int) (w : World) (h : okT t = false ∨ (okT t = true ∧ okA a = false)) :
    Calls Tryd.prog 21 #[.int .i64 a, .int .i64 t] w fun e w' => e = .returned (.agg #[.int .i64 0, .int .i64 0]) ∧ Below w.heap.size w w' := by
  rcases h with h | ⟨h, h2⟩
  · rcases okT_no h with h3 | ⟨h3, h4⟩
    all_goals
      clear h
      go_enter Tryd.func21, Tryd.ntmps21
      go_wp2
      exact bodyPost_ret (v := .agg #[.int .i64 0, .int .i64 0]) (by simp [results, Tryd.results21, go_sem]) rfl ⟨rfl, (Below.refl _ _).alloc (Nat.le_refl _) _⟩
  · obtain ⟨ht, ht2⟩ := okT_iff.1 h
    have h3 : ¬ t < 0 := by omega
    have h4 : ¬ 12622780800 ≤ t := by omega
    have HC := Lib.hid (fun w => refCycles_out a t (t + 1) w (.inl h2))
    have HB := Lib.hid (Blk.new w 37 #[.int .i64 0, .int .i64 0])
    clear h h2
    go_enter Tryd.func21, Tryd.ntmps21
    go_wp2_with fail
    refine (HC.out _).mono ?_
    rintro e w1 ⟨rfl, hb1⟩
    have hB := HB.out.below hb1 (by simp)
    have c0 := hB.cell 0
    have c1 := hB.cell 1
    have f0 := hB.frozen 0
    have f1 := hB.frozen 1
    simp only [List.getElem?_toArray, List.getElem?_cons_zero, List.getElem?_cons_succ] at c0 c1
    have hg := hB.lt
    have hb4 : Below w.heap.size w w1 := ((Below.refl _ w).alloc (Nat.le_refl _) _).trans (hb1.mono (by simp))
    clear hB hb1
    go_wp2
    exact bodyPost_ret (v := .agg #[.int .i64 0, .int .i64 0]) (by simp [results, Tryd.results21, go_sem, c0, c1, f0, f1]) rfl ⟨rfl, (hb4.setCell (by simp) _).setCell (by simp) _⟩
set_option maxHeartbeats 2000000 in
theorem refCycle_in (a t : Int) (w : World) (ha : 1 ≤ a) (ha2 : a ≤ 28) (ht : 0 ≤ t) (ht2 : t < 12622780800) :
    Calls Tryd.prog 21 #[.int .i64 a, .int .i64 t] w fun e w' => e = .returned (.agg #[.int .i64 (st a (mon a t)), .int .i64 (st a (mon a t + 1))]) ∧ Below w.heap.size w w' := by
  have h3 : ¬ t < 0 := by omega
  have h4 : ¬ 12622780800 ≤ t := by omega
  have HC := Lib.hid (fun w => refCycles_in a t (t + 1) w ha ha2 ht (by omega) (by omega))
  rw [cnt_one] at HC
  have HB := Lib.hid (Blk.new w 37 #[.int .i64 0, .int .i64 0])
  generalize mon a t = M at *
  obtain ⟨x, hx⟩ : ∃ x, st a M = x := ⟨_, rfl⟩
  obtain ⟨y, hy⟩ : ∃ y, st a (M + 1) = y := ⟨_, rfl⟩
  rw [hx, hy]
  have HX : Hid (st a (M + ((0 : Nat) : Int)) = x) := by rw [← hx]; exact (congrArg (st a) (by omega) : st a (M + ((0 : Nat) : Int)) = st a M)
  have HY : Hid (st a (M + ((0 : Nat) : Int) + 1) = y) := by rw [← hy]; exact (congrArg (st a) (by omega) : st a (M + ((0 : Nat) : Int) + 1) = st a (M + 1))
  clear hx hy
  go_enter Tryd.func21, Tryd.ntmps21
  go_wp2_with fail
  refine (HC.out _).mono ?_
  rintro e w1 ⟨v, rfl, hown, hb1⟩
  obtain ⟨g, c, rfl, hp, hc⟩ := prs_cyc hown (by decide)
  obtain ⟨b, off, e, hbl, d0, d1⟩ := hp 0 (by decide)
  simp only [Option.some.injEq, Addr.mk.injEq] at e
  obtain ⟨rfl, rfl, _⟩ := e
  dsimp only at d0 d1
  rw [HX.out] at d0
  rw [HY.out] at d1
  simp only [Nat.zero_mul, Nat.zero_add] at d0 d1
  have hB := HB.out.below hb1 (by simp)
  have c0 := hB.cell 0
  have c1 := hB.cell 1
  have f0 := hB.frozen 0
  have f1 := hB.frozen 1
  simp only [List.getElem?_toArray, List.getElem?_cons_zero, List.getElem?_cons_succ] at c0 c1
  have hg := hB.lt
  have hb4 : Below w.heap.size w w1 := ((Below.refl _ w).alloc (Nat.le_refl _) _).trans (hb1.mono (by simp))
  clear hB hb1 hp hown
  go_wp2
  exact bodyPost_ret (v := .agg #[.int .i64 x, .int .i64 y]) (by simp [results, Tryd.results21, go_sem, c0, c1, f0, f1]) rfl ⟨rfl, (hb4.setCell (by simp) _).setCell (by simp) _⟩

set_option maxHeartbeats 2000000 in
/-- Two lists with the same pairs are equal. -/
theorem same_yes (A B : Option Addr) (n c c' : Nat) (x y : Nat → Int) (w : World) (hA : Prs w A n x y) (hB : Prs w B n x y) (hn : n ≤ 100000) (hc : n ≤ c) (hc' : n ≤ c') :
    Calls Tryd.prog 23 #[.slice A n c, .slice B n c'] w fun e w' => e = .returned (.bool true) ∧ Below w.heap.size w w' := by
  go_enter Tryd.func23, Tryd.ntmps23
  go_wp2
  go_loopw [5] (fun i wr => ∃ k : Nat, k ≤ n ∧ i = .int .i64 k ∧ Below w.heap.size w wr) (fun i _ => n - (intOf i).toNat)
  case atStart => exact ⟨0, by omega, rfl, Below.refl _ _⟩
  case round =>
    obtain ⟨k, hk, rfl, hb⟩ := hrel
    by_cases hlt : k < n
    · obtain ⟨b, off, rfl, hbl, d0, d1⟩ := hA k hlt
      obtain ⟨b', off', rfl, hbl', d0', d1'⟩ := hB k hlt
      have e0 := (hb.cell (p := ⟨b, off + k * 2, none⟩) hbl).trans d0
      have e1 := (hb.cell (p := ⟨b, off + k * 2 + 1, none⟩) hbl).trans d1
      have e0' := (hb.cell (p := ⟨b', off' + k * 2, none⟩) hbl').trans d0'
      have e1' := (hb.cell (p := ⟨b', off' + k * 2 + 1, none⟩) hbl').trans d1'
      have hlt' : (k : Int) < (n : Int) := by omega
      have h0' : (0 : Int) ≤ (k : Int) := by omega
      have hq := neqPeriod_same (x k) (y k)
      have hgd := guardPeriod
      have HA := Lib.hid hA; have HBB := Lib.hid hB
      clear hA hB d0 d1 d0' d1'
      generalize x k = u at *
      generalize y k = z at *
      go_wp2
      go_quiet (fail)
      go_wp2
      go_roundw
      case rel => exact ⟨k + 1, by omega, by go_num, below_drewN hb _⟩
      case measure => simp [intOf]; omega
    · obtain rfl : k = n := by omega
      clear hA hB
      go_wp2
      go_ret
      exact ⟨rfl, hb⟩
end Go.Proofs.YtigohhliblgdhaaDoor
