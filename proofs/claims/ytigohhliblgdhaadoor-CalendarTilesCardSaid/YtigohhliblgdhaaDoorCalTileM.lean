/- Plain facts on tiling; contracts on cycles from a world on. -/
import Derived.Test.YtigohhliblgdhaaDoorCalLaw2
import Derived.Test.YtigohhliblgdhaaDoorCalBackM
namespace Go.Proofs.YtigohhliblgdhaaDoor
open Go.RowKit

/-- The cycle of an instant: valid, alone in itself, next to its neighbours. -/
theorem tile_spec {a t : Int} (ha : 1 ≤ a) (ha2 : a ≤ 28) (ht : 0 ≤ t) (ht2 : t < 12622780800) :
    0 ≤ st a (mon a t) ∧ st a (mon a t) ≤ t ∧ t < st a (mon a t + 1) ∧ st a (mon a t + 1) ≤ 12622780800 ∧
    mon a (st a (mon a t)) = mon a t ∧ cnt a (st a (mon a t)) (st a (mon a t + 1)) = 1 ∧
    (st a (mon a t + 1) < 12622780800 → st a (mon a (st a (mon a t + 1))) = st a (mon a t + 1)) ∧
    (0 < st a (mon a t) → st a (mon a (st a (mon a t) - 1) + 1) = st a (mon a t)) := by
  obtain ⟨h1, h2, h3, h4⟩ := mon_spec a t ha ha2 ht ht2
  generalize mon a t = M at *
  have b1 := st_bd a M ha ha2
  have b2 := st_bd a (M + 1) ha ha2
  have m1 : mon a (st a M) = M := (mon_of a (st a M) M ha ha2 h1 h2 (Int.le_refl _) (by omega)).symm
  have m2 : mon a (st a (M + 1) - 1) = M := (mon_of a (st a (M + 1) - 1) M ha ha2 h1 h2 (by omega) (by omega)).symm
  refine ⟨b1.1, h3, h4, b2.2, m1, ?_, ?_, ?_⟩
  · unfold cnt; rw [m1, m2]; omega
  · intro h
    have hM : M + 1 ≤ 4799 := by
      rcases lt_or_le' M 4799 with h5 | h5
      · omega
      · rw [st_end a (M + 1) (by omega)] at h; omega
    have hs := st_lt a (M + 1) ha ha2 (by omega) (by omega)
    rw [(mon_of a (st a (M + 1)) (M + 1) ha ha2 (by omega) hM (Int.le_refl _) (by omega)).symm]
  · intro h
    have hM : 0 ≤ M := by
      rcases lt_or_le' M 0 with h5 | h5
      · rw [st_neg a M h5] at h; omega
      · exact h5
    have hs : st a (M - 1) ≤ st a M - 1 := by
      rcases lt_or_le' M 1 with h5 | h5
      · rw [st_neg a (M - 1) (by omega)]; omega
      · have := st_lt a (M - 1) ha ha2 (by omega) (by omega)
        rw [show M - 1 + 1 = M by omega] at this; omega
    have hk : mon a (st a M - 1) = M - 1 := (mon_of a (st a M - 1) (M - 1) ha ha2 (by omega) (by omega) hs (by rw [show M - 1 + 1 = M by omega]; omega)).symm
    rw [hk, show M - 1 + 1 = M by omega]
/-- The cycles of a period: its ends, and each one's own. -/
theorem row_spec {a f t : Int} (ha : 1 ≤ a) (ha2 : a ≤ 28) (hf : 0 ≤ f) (hft : f < t) (ht : t ≤ 12622780800) :
    0 < cnt a f t ∧ cnt a f t ≤ 4801 ∧ mon a (t - 1) = mon a f + ((cnt a f t : Int) - 1) ∧ -1 ≤ mon a f ∧ mon a f + ((cnt a f t : Int) - 1) ≤ 4799 ∧
    (∀ i : Int, 1 ≤ i → i < cnt a f t → 0 ≤ st a (mon a f + i) ∧ st a (mon a f + i) < 12622780800 ∧ mon a (st a (mon a f + i)) = mon a f + i) := by
  have hp := cnt_pos a f t ha ha2 hf hft ht
  have hb := cnt_bd a f t ha ha2 hf hft ht
  obtain ⟨h1, h2, _, _⟩ := mon_spec a f ha ha2 hf (by omega)
  obtain ⟨g1, g2, _, _⟩ := mon_spec a (t - 1) ha ha2 (by omega) (by omega)
  have e : mon a (t - 1) = mon a f + ((cnt a f t : Int) - 1) := by unfold cnt at hp ⊢; omega
  refine ⟨hp, hb, e, h1, by omega, fun i hi1 hi2 => ?_⟩
  have b := st_bd a (mon a f + i) ha ha2
  have s := st_lt a (mon a f + i) ha ha2 (by omega) (by omega)
  have b2 := st_bd a (mon a f + i + 1) ha ha2
  exact ⟨b.1, by omega, (mon_of a _ (mon a f + i) ha ha2 (by omega) (by omega) (Int.le_refl _) (by omega)).symm⟩

theorem cycles_prs (a f t : Int) (ha : 1 ≤ a) (ha2 : a ≤ 28) (hf : 0 ≤ f) (hft : f < t) (ht : t ≤ 12622780800) (w : World) :
    Calls Tryd.prog 24 #[.int .i64 a, .agg #[.int .i64 f, .int .i64 t]] w fun e w' => ∃ A c, e = .returned (.slice A (cnt a f t) c) ∧ cnt a f t ≤ c ∧ Prs w' A (cnt a f t) (fun k => st a (mon a f + k)) (fun k => st a (mon a f + k + 1)) ∧ Below w.heap.size w w' := by
  refine (cycles_in a f t w ha ha2 hf hft ht).mono ?_
  rintro e w' ⟨v, rfl, hown, hb⟩
  obtain ⟨g, c, rfl, hpr, hc⟩ := prs_cyc hown (cnt_pos a f t ha ha2 hf hft ht)
  exact ⟨_, c, rfl, hc, hpr, hb⟩
theorem sinceL {f : FuncId} {args : Array Value} {n : Nat} {x y : Nat → Int} (h : ∀ w, Calls Tryd.prog f args w fun e w' => ∃ A c, e = .returned (.slice A n c) ∧ n ≤ c ∧ Prs w' A n x y ∧ Below w.heap.size w w') {w0 w1 : World} (hb : Below w0.heap.size w0 w1) :
    Calls Tryd.prog f args w1 fun e w' => ∃ A c, e = .returned (.slice A n c) ∧ n ≤ c ∧ Prs w' A n x y ∧ Below w0.heap.size w0 w' ∧ Below w1.heap.size w1 w' :=
  (h w1).mono fun _ _ ⟨A, c, he, hc, hp, hb1⟩ => ⟨A, c, he, hc, hp, hb.trans (hb1.mono hb.size), hb1⟩
theorem prs_new (w : World) (x y : Int) : Prs (w.alloc (.cells #[.int .i64 x, .int .i64 y] 37)) (some ⟨w.heap.size, 0, none⟩) 1 (fun _ => x) (fun _ => y) := fun k hk => by
  obtain rfl : k = 0 := by omega
  have h := Blk.new w 37 #[.int .i64 x, .int .i64 y]
  exact ⟨w.heap.size, 0, rfl, by simp, h.cell 0, h.cell 1⟩
theorem Prs.congr {w : World} {A : Option Addr} {n : Nat} {x y x' y' : Nat → Int} (h : Prs w A n x y) (hx : ∀ k, k < n → x k = x' k) (hy : ∀ k, k < n → y k = y' k) : Prs w A n x' y' := fun k hk => by
  obtain ⟨b, off, e, hbl, h1, h2⟩ := h k hk
  exact ⟨b, off, e, hbl, by rw [← hx k hk]; exact h1, by rw [← hy k hk]; exact h2⟩
theorem fieldFrom (u v : Int) (w : World) : (Instr.field 37 (.agg #[.int .i64 u, .int .i64 v]) 0).run Tryd.prog w = .ok (.int .i64 u) w := by kernel_rfl
theorem fieldTo (u v : Int) (w : World) : (Instr.field 37 (.agg #[.int .i64 u, .int .i64 v]) 1).run Tryd.prog w = .ok (.int .i64 v) w := by kernel_rfl
end Go.Proofs.YtigohhliblgdhaaDoor
