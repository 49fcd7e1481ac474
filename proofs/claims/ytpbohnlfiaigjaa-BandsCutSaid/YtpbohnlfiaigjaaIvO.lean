/- Rows of the call's own: lists of integers, of periods. -/
import Derived.Test.YtpbohnlfiaigjaaIvS
import Derived.OwnWalk
import Derived.Deep.Onto
import Derived.Laws.AppendOwnNone
namespace Go.Proofs.Ytpbohnlfiaigjaa
open Go.RowKit

/-- The cells of a list of periods. -/
def cl (l : List Pd) : List Value := l.flatMap fun p => [.int .i64 p.1, .int .i64 p.2]
theorem cl_nil : cl [] = [] := rfl
theorem cl_cons (p : Pd) (l : List Pd) : cl (p :: l) = .int .i64 p.1 :: .int .i64 p.2 :: cl l := by simp [cl]
theorem cl_append (l m : List Pd) : cl (l ++ m) = cl l ++ cl m := by simp [cl]
theorem cl_length (l : List Pd) : (cl l).length = l.length * 2 := by
  induction l with
  | nil => rfl
  | cons p l ih => rw [cl_cons]; simp [ih]; omega
theorem cl_at : ∀ (l : List Pd) (k : Nat), k < l.length → (cl l)[k * 2]? = some (.int .i64 (l.getD k (0, 0)).1) ∧ (cl l)[k * 2 + 1]? = some (.int .i64 (l.getD k (0, 0)).2) := by
  intro l
  induction l with
  | nil => intro k hk; exact absurd hk (Nat.not_lt_zero k)
  | cons p l ih =>
    intro k hk
    rw [cl_cons]
    match k with
    | 0 => exact ⟨rfl, rfl⟩
    | k + 1 =>
      have := ih k (by simpa using hk)
      rw [show (k + 1) * 2 = k * 2 + 1 + 1 by omega, List.getElem?_cons_succ, List.getElem?_cons_succ, List.getElem?_cons_succ, List.getElem?_cons_succ]
      simpa [List.getD] using this
theorem cl_one {l : List Pd} : ∀ u ∈ cl l, u.oneCell' = true := by
  intro u hu
  unfold cl at hu
  rw [List.mem_flatMap] at hu
  obtain ⟨p, _, hp⟩ := hu
  simp at hp
  rcases hp with rfl | rfl <;> rfl
theorem own_lt {w : World} {base g n cap e size : Nat} {xs : List Value} (h : w.ownsRow base e size (.slice (some ⟨g, 0, none⟩) n cap) n xs) : g < w.heap.size := (World.ownsRow.lt h g rfl).2
/-- A row of the call's own reads as its list. -/
theorem pr_own {w : World} {base e n : Nat} {v : Value} {l : List Pd} (h : w.ownsRow base e 2 v n (cl l)) (hn : l.length = n) : ∃ A c, v = .slice A n c ∧ n ≤ c ∧ c ≤ maxLen ∧ PR w A l := by
  subst hn
  have h0 := h
  obtain ⟨_, h2⟩ := h
  rcases h2 with ⟨hv, hz⟩ | ⟨g, c, cur, hv, hg, hh, hnc, hcm, hcs, htk⟩
  · subst hv
    exact ⟨none, 0, by rw [hz], by omega, by decide, fun k hk => by omega⟩
  · subst hv
    refine ⟨_, c, rfl, hnc, hcm, fun k hk => ⟨g, 0, rfl, own_lt h0, ?_, ?_⟩⟩
    · rw [Nat.zero_add, World.ownsRow.cellAt h0 (k * 2) (by omega)]; exact (cl_at l k hk).1
    · rw [Nat.zero_add, World.ownsRow.cellAt h0 (k * 2 + 1) (by omega)]; exact (cl_at l k hk).2
/-- The cells of a list of integers. -/
def il (l : List Int) : List Value := l.map (Value.int .i64)
theorem il_append (l m : List Int) : il (l ++ m) = il l ++ il m := by simp [il]
theorem il_length (l : List Int) : (il l).length = l.length := by simp [il]
theorem il_at (l : List Int) (k : Nat) (h : k < l.length) : (il l)[k]? = some (.int .i64 (l.getD k 0)) := by
  simp [il, List.getD, List.getElem?_eq_getElem h]
theorem ir_own {w : World} {base e n : Nat} {v : Value} {l : List Int} (h : w.ownsRow base e 1 v n (il l)) (hn : l.length = n) : ∃ A c, v = .slice A n c ∧ n ≤ c ∧ c ≤ maxLen ∧ IR w A l := by
  subst hn
  have h0 := h
  obtain ⟨_, h2⟩ := h
  rcases h2 with ⟨hv, hz⟩ | ⟨g, c, cur, hv, hg, hh, hnc, hcm, hcs, htk⟩
  · subst hv
    exact ⟨none, 0, by rw [hz], by omega, by decide, fun k hk => by omega⟩
  · subst hv
    refine ⟨_, c, rfl, hnc, hcm, fun k hk => ⟨g, 0, rfl, own_lt h0, ?_⟩⟩
    rw [Nat.zero_add, World.ownsRow.cellAt h0 k (by omega)]; exact il_at l k hk
theorem periodInfo : (Try.prog.info? 37).map (fun i => (i.zero, i.size, i.bytes)) = some (some (.agg #[.int .i64 0, .int .i64 0]), 2, 16) := by kernel_rfl
theorem intInfo : (Try.prog.info? 3).map (fun i => (i.zero, i.size, i.bytes)) = some (some (.int .i64 0), 1, 8) := by kernel_rfl
theorem own_below {w w' : World} {base : Nat} {e : TypeId} {size : Nat} {v : Value} {n : Nat} {xs : List Value} (h : w.ownsRow base e size v n xs) (hb : Below w.heap.size w w') : w'.ownsRow base e size v n xs := by
  obtain ⟨h1, h2⟩ := h
  refine ⟨h1, ?_⟩
  rcases h2 with h2 | ⟨g, cap, cur, hv, hg, hh, r⟩
  · exact .inl h2
  · refine .inr ⟨g, cap, cur, hv, hg, (hb.block g ?_).trans hh, r⟩
    rcases Nat.lt_or_ge g w.heap.size with hlt | hge
    · exact hlt
    · rw [Array.getElem?_eq_none hge] at hh; cases hh
theorem own_not {w : World} {base : Nat} {e : TypeId} {size : Nat} {v : Value} {n : Nat} {xs : List Value} (h : w.ownsRow base e size v n xs) {g : Nat} (hg : g < base) : some g ≠ v.ownBlock := fun e => by
  have := (World.ownsRow.lt h g e.symm).1
  omega
theorem own_drew {w : World} {base : Nat} {e : TypeId} {size : Nat} {v : Value} {n : Nat} {xs : List Value} (h : w.ownsRow base e size v n xs) (k : Nat) : (w.drewN k).ownsRow base e size v n xs := h
/-- A new block of one pair. -/
theorem cell_two_new' (w : World) (x y : Int) (e : TypeId) : ∀ j u, [Value.int .i64 x, .int .i64 y][j]? = some u → (w.alloc (.cells #[.int .i64 x, .int .i64 y] e)).cell? ((⟨w.heap.size, 0, none⟩ : Addr).add j) = some u := by
  intro j u hu
  have ha : ((⟨w.heap.size, 0, none⟩ : Addr).add j) = ⟨w.heap.size, j, none⟩ := by unfold Addr.add; split <;> simp_all
  rw [ha, cell_of_row _ _ _ _ _ (0, 0) (heap_alloc_new _ _)]
  simpa using hu
/-- A new block of one integer. -/
theorem cell_one_new' (w : World) (x : Int) (e : TypeId) : ∀ j u, [Value.int .i64 x][j]? = some u → (w.alloc (.cells #[.int .i64 x] e)).cell? ((⟨w.heap.size, 0, none⟩ : Addr).add j) = some u := by
  intro j u hu
  have ha : ((⟨w.heap.size, 0, none⟩ : Addr).add j) = ⟨w.heap.size, j, none⟩ := by unfold Addr.add; split <;> simp_all
  rw [ha, cell_of_row _ _ _ _ _ (0, 0) (heap_alloc_new _ _)]
  simpa using hu
theorem own_any {w : World} {base e size n : Nat} {v : Value} {xs : List Value} (h : w.ownsRow base e size v n xs) : ∃ A c, v = .slice A n c ∧ n ≤ c ∧ c ≤ maxLen ∧ (0 < n → ∃ g, A = some ⟨g, 0, none⟩ ∧ base ≤ g ∧ g < w.heap.size) := by
  have h0 := h
  obtain ⟨_, h2⟩ := h
  rcases h2 with ⟨hv, hz⟩ | ⟨g, c, cur, hv, hg, hh, hnc, hcm, hcs, htk⟩
  · subst hv
    exact ⟨none, 0, by rw [hz], by omega, by decide, fun h => by omega⟩
  · subst hv
    exact ⟨_, c, rfl, hnc, hcm, fun _ => ⟨g, rfl, hg, own_lt h0⟩⟩
/-- What a call that hands back a list of periods leaves. -/
def PdOut (l : List Pd) (w : World) (e : Ending) (w' : World) : Prop :=
  ∃ A c, e = .returned (.slice A l.length c) ∧ l.length ≤ c ∧ PR w' A l ∧ Below w.heap.size w w'
def InOut (l : List Int) (w : World) (e : Ending) (w' : World) : Prop :=
  ∃ A c, e = .returned (.slice A l.length c) ∧ l.length ≤ c ∧ IR w' A l ∧ Below w.heap.size w w'
end Go.Proofs.Ytpbohnlfiaigjaa
