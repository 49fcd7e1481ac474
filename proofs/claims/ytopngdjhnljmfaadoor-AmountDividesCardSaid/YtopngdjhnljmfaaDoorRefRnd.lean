/- Walk: the reference converts amounts to whole units. -/
import Derived.Test.YtopngdjhnljmfaaDoorGive
import Derived.Deep.AppendLies
namespace Go.Proofs.YtopngdjhnljmfaaDoor
open Go.RowKit St

theorem own_grown {w w' : World} {base e size n c g : Nat} {xs : List Value} {row : Option Nat} (h : w.ownsRow base e size (.slice (some ⟨g, 0, none⟩) n c) n xs) (hg : w.grownBy w' row) (hne : some g ≠ row) : w'.ownsRow base e size (.slice (some ⟨g, 0, none⟩) n c) n xs := by
  refine ⟨h.1, ?_⟩
  rcases h.2 with h | ⟨g1, cap, cur, e1, hb, hh, r⟩
  · exact .inl h
  · cases e1
    have hl : g < w.heap.size := by
      rcases Nat.lt_or_ge g w.heap.size with h | h
      · exact h
      · rw [Array.getElem?_eq_none h] at hh; cases hh
    exact .inr ⟨_, _, cur, rfl, hb, (hg.block g hl hne).trans hh, r⟩
theorem cell_one (w : World) (x : Int) (e : TypeId) : ∀ (j : Nat) (u : Value), [Value.int .i64 x][j]? = some u → (w.alloc (.cells #[.int .i64 x] e)).cell? ((⟨w.heap.size, 0, none⟩ : Addr).add j) = some u := by
  intro j u hu
  have ha : ((⟨w.heap.size, 0, none⟩ : Addr).add j) = ⟨w.heap.size, j, none⟩ := by unfold Addr.add; split <;> simp_all
  rw [ha, cell_of_row _ _ _ _ _ (0, 0) (heap_alloc_new _ _)]
  simpa using hu
theorem rem_is (a : Int) (ha : -1125899906842624 ≤ a ∧ a ≤ 1125899906842624) : (a.tmod 10000 + 10000).tmod 10000 = a % 10000 ∧ (a.tmod 10000 + 10000) % 10000 = a % 10000 ∧ (a - a % 10000).tdiv 10000 = a / 10000 ∧ -10000 < a.tmod 10000 ∧ a.tmod 10000 < 10000 := by
  obtain ⟨q1, q2, q3⟩ := tq a
  have h2 : -10000 < a.tmod 10000 ∧ a.tmod 10000 < 10000 := by omega
  have h3 : (a.tmod 10000 + 10000) % 10000 = a % 10000 := by omega
  refine ⟨?_, h3, ?_, h2.1, h2.2⟩
  · rw [Int.tmod_eq_emod_of_nonneg (by omega)]; exact h3
  · obtain ⟨p1, p2, p3⟩ := tq (a - a % 10000)
    omega
theorem has_own {w : World} {base : Nat} {e : TypeId} {g n c : Nat} {zs : List Int} (h : w.ownsRow base e 1 (.slice (some ⟨g, 0, none⟩) n c) n (zs.map (Value.int .i64))) (hl : zs.length = n) : Has w (some ⟨g, 0, none⟩) n c (zs.map (Value.int .i64)) := by
  refine ⟨by rw [List.length_map]; exact hl, fun u hu => by obtain ⟨z, _, rfl⟩ := List.mem_map.1 hu; rfl, .inr ⟨_, rfl, fun j u hj => ?_⟩⟩
  have hjn : j < n := by
    rcases Nat.lt_or_ge j n with h | h
    · exact h
    · rw [List.getElem?_eq_none (by rw [List.length_map]; omega)] at hj; cases hj
  refine ⟨(own_lt h).2, ?_⟩
  rw [add_none, Nat.zero_add, World.ownsRow.cellAt h j (by omega)]
  exact hj
theorem rnd_bound (S : Int) (h : -9223372036854775808 ≤ S ∧ S ≤ 9223372036854775807) : -922337203685478 ≤ rndV S ∧ rndV S ≤ 922337203685478 := by
  obtain ⟨q1, q2, q3⟩ := tq S
  unfold rndV
  split
  · omega
  · split <;> omega
theorem own_base {w : World} {b b' : Nat} {e : TypeId} {size : Nat} {v : Value} {n : Nat} {xs : List Value} (h : w.ownsRow b e size v n xs) (hb : b' ≤ b) : w.ownsRow b' e size v n xs := by
  refine ⟨h.1, ?_⟩
  rcases h.2 with h | ⟨g, cap, cur, e1, hg, r⟩
  · exact .inl h
  · exact .inr ⟨g, cap, cur, e1, Nat.le_trans hb hg, r⟩
theorem cellB5 {w0 w w' : World} {b o g : Nat} {t : TypeId} {cs : Array Value} {v : Value} (hg : (w.alloc (.cells cs t)).grownBy w' (some g)) (hc : w.cell? ⟨b, o, none⟩ = some v) (hb : b < w.heap.size) (hgb : w0.heap.size ≤ g) (hb0 : b < w0.heap.size) : w'.cell? ⟨b, o, none⟩ = some v := by
  rw [World.cell?_of_block (hg.block b (by simp; omega) (by intro h; injection h with h; omega))]
  exact (((Below.refl _ w).alloc (Nat.le_refl _) (.cells cs t)).cell (p := ⟨b, o, none⟩) hb).trans hc
theorem belowB5 {w0 w w' : World} {g : Nat} {t : TypeId} {cs : Array Value} (hb : Below w0.heap.size w0 w) (hg : (w.alloc (.cells cs t)).grownBy w' (some g)) (hgb : w0.heap.size ≤ g) : Below w0.heap.size w0 w' :=
  below_of_grown (hb.alloc hb.size _) hg hgb (by have := hb.size; simp; omega)
end Go.Proofs.YtopngdjhnljmfaaDoor
