/- Lists of pieces in memory. -/
import Derived.Test.YtpbohnlfiaigjaaBdL
namespace Go.Proofs.Ytpbohnlfiaigjaa
open Go.RowKit

/-- The cells of a list of pieces. -/
def pcl (l : List Pc) : List Value := l.flatMap fun p => [.string p.1, .int .i64 p.2.1, .int .i64 p.2.2]
theorem pcl_nil : pcl [] = [] := rfl
theorem pcl_cons (p : Pc) (l : List Pc) : pcl (p :: l) = .string p.1 :: .int .i64 p.2.1 :: .int .i64 p.2.2 :: pcl l := by simp [pcl]
theorem pcl_append (l m : List Pc) : pcl (l ++ m) = pcl l ++ pcl m := by simp [pcl]
theorem pcl_length (l : List Pc) : (pcl l).length = l.length * 3 := by
  induction l with
  | nil => rfl
  | cons p l ih => rw [pcl_cons]; simp [ih]; omega
theorem pcl_at : ∀ (l : List Pc) (k : Nat), k < l.length → (pcl l)[k * 3]? = some (.string (l.getD k pc0).1) ∧ (pcl l)[k * 3 + 1]? = some (.int .i64 (l.getD k pc0).2.1) ∧ (pcl l)[k * 3 + 2]? = some (.int .i64 (l.getD k pc0).2.2) := by
  intro l
  induction l with
  | nil => intro k hk; exact absurd hk (Nat.not_lt_zero k)
  | cons p l ih =>
    intro k hk
    rw [pcl_cons]
    match k with
    | 0 => exact ⟨rfl, rfl, rfl⟩
    | k + 1 =>
      have := ih k (by simpa using hk)
      rw [show (k + 1) * 3 = k * 3 + 1 + 1 + 1 by omega]
      simpa [List.getD] using this
theorem pcl_last (o : List Pc) (m : ByteArray) (a b : Int) : (pcl (o ++ [(m, a, b)]))[o.length * 3]? = some (.string m) ∧ (pcl (o ++ [(m, a, b)]))[o.length * 3 + 2]? = some (.int .i64 b) := by
  have := pcl_at (o ++ [(m, a, b)]) o.length (by simp)
  simp [List.getD] at this
  exact ⟨this.1, this.2.2⟩
theorem pcl_set (o : List Pc) (m : ByteArray) (a b y : Int) : (pcl (o ++ [(m, a, b)])).set (o.length * 3 + 2) (.int .i64 y) = pcl (o ++ [(m, a, y)]) := by
  rw [pcl_append, pcl_append, List.set_append_right _ _ (by rw [pcl_length]; omega), pcl_length, show o.length * 3 + 2 - o.length * 3 = 2 by omega]
  rfl
/-- A slice that reads as a list of pieces. -/
def PcR (w : World) (A : Option Addr) (l : List Pc) : Prop :=
  ∀ k, k < l.length → ∃ b off, A = some ⟨b, off, none⟩ ∧ b < w.heap.size ∧ w.cell? ⟨b, off + k * 3, none⟩ = some (.string (l.getD k pc0).1) ∧ w.cell? ⟨b, off + k * 3 + 1, none⟩ = some (.int .i64 (l.getD k pc0).2.1) ∧ w.cell? ⟨b, off + k * 3 + 2, none⟩ = some (.int .i64 (l.getD k pc0).2.2)
theorem PcR.below {w w' : World} {A : Option Addr} {l : List Pc} (h : PcR w A l) (hb : Below w.heap.size w w') : PcR w' A l := fun k hk => by
  obtain ⟨b, off, e, h1, h2, h3, h4⟩ := h k hk
  exact ⟨b, off, e, Nat.lt_of_lt_of_le h1 hb.size, (hb.cell (p := ⟨b, off + k * 3, none⟩) h1).trans h2, (hb.cell (p := ⟨b, off + k * 3 + 1, none⟩) h1).trans h3, (hb.cell (p := ⟨b, off + k * 3 + 2, none⟩) h1).trans h4⟩
theorem PcR.nil {w : World} {A : Option Addr} : PcR w A [] := fun k hk => absurd hk (Nat.not_lt_zero k)
theorem pc_own {w : World} {base e n : Nat} {v : Value} {l : List Pc} (h : w.ownsRow base e 3 v n (pcl l)) (hn : l.length = n) : ∃ A c, v = .slice A n c ∧ n ≤ c ∧ c ≤ maxLen ∧ PcR w A l := by
  subst hn
  have h0 := h
  obtain ⟨_, h2⟩ := h
  rcases h2 with ⟨hv, hz⟩ | ⟨g, c, cur, hv, hg, hh, hnc, hcm, hcs, htk⟩
  · subst hv
    exact ⟨none, 0, by rw [hz], by omega, by decide, fun k hk => by omega⟩
  · subst hv
    refine ⟨_, c, rfl, hnc, hcm, fun k hk => ⟨g, 0, rfl, own_lt h0, ?_, ?_, ?_⟩⟩
    · rw [Nat.zero_add, World.ownsRow.cellAt h0 (k * 3) (by omega)]; exact (pcl_at l k hk).1
    · rw [Nat.zero_add, World.ownsRow.cellAt h0 (k * 3 + 1) (by omega)]; exact (pcl_at l k hk).2.1
    · rw [Nat.zero_add, World.ownsRow.cellAt h0 (k * 3 + 2) (by omega)]; exact (pcl_at l k hk).2.2
theorem pieceInfo : (Try.prog.info? 45).map (fun i => (i.zero, i.size, i.bytes)) = some (some (.agg #[.string ByteArray.empty, .int .i64 0, .int .i64 0]), 3, 32) := by kernel_rfl
/-- What a call that hands back a list of pieces leaves. -/
def PcOut (l : List Pc) (w : World) (e : Ending) (w' : World) : Prop :=
  ∃ A c, e = .returned (.slice A l.length c) ∧ l.length ≤ c ∧ c ≤ maxLen ∧ PcR w' A l ∧ Below w.heap.size w w'
theorem own_form3 {w : World} {base e size n : Nat} {v : Value} {xs : List Value} (h : w.ownsRow base e size v n xs) (hn : 0 < n) : ∃ g c, v = .slice (some ⟨g, 0, none⟩) n c ∧ n ≤ c ∧ c ≤ maxLen ∧ base ≤ g ∧ g < w.heap.size := by
  have h0 := h
  obtain ⟨_, h2⟩ := h
  rcases h2 with ⟨hv, hz⟩ | ⟨g, c, cur, hv, hg, hh, hnc, hcm, hcs, htk⟩
  · omega
  · subst hv
    exact ⟨g, c, rfl, hnc, hcm, hg, own_lt h0⟩
theorem cell_three_new (w : World) (m : ByteArray) (x y : Int) (e : TypeId) : ∀ (j : Nat) (u : Value), [Value.string m, .int .i64 x, .int .i64 y][j]? = some u → (w.alloc (.cells #[.string m, .int .i64 x, .int .i64 y] e)).cell? ((⟨w.heap.size, 0, none⟩ : Addr).add j) = some u := by
  intro j u hu
  have ha : ((⟨w.heap.size, 0, none⟩ : Addr).add j) = ⟨w.heap.size, j, none⟩ := by unfold Addr.add; split <;> simp_all
  rw [ha, cell_of_row _ _ _ _ _ (0, 0) (heap_alloc_new _ _)]
  simpa using hu
/-- The pieces that Cut returns. -/
def cutW (l : List Bd) (hol : List Int) (a b : Int) : List Pc := if ckB l = 0 ∧ vl (a, b) = true ∧ b - a ≤ 2678400 then ctP (atV l hol) a b else []
theorem cutW_yes {l : List Bd} {hol : List Int} {a b : Int} (h1 : ckB l = 0) (h2 : vl (a, b) = true) (h3 : b - a ≤ 2678400) : cutW l hol a b = ctP (atV l hol) a b := by unfold cutW; rw [if_pos ⟨h1, h2, h3⟩]
theorem cutW_no {l : List Bd} {hol : List Int} {a b : Int} (h : ¬ ckB l = 0 ∨ vl (a, b) = false ∨ ¬ b - a ≤ 2678400) : cutW l hol a b = [] := by
  unfold cutW
  rw [if_neg]
  rintro ⟨h1, h2, h3⟩
  rcases h with h | h | h
  · exact h h1
  · rw [h2] at h; cases h
  · exact h h3
theorem cutW_length (l : List Bd) (hol : List Int) (a b : Int) : (cutW l hol a b).length ≤ 2678400 := by
  unfold cutW
  split
  · rename_i h
    have := ctP_length (atV l hol) a b
    omega
  · simp
theorem pcOut_nil (w w' : World) (hb : Below w.heap.size w w') {l : List Pc} (hl : l = []) {e : Ending} (he : e = .returned (.slice none 0 0)) : PcOut l w e w' := by
  subst hl
  exact ⟨none, 0, he, Nat.le_refl _, by decide, PcR.nil, hb⟩
end Go.Proofs.Ytpbohnlfiaigjaa
