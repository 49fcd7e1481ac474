/- Plain mathematics: a row in sorted blocks. -/
import Derived.Test.YtopngdjhnljmfaaDoorStM
namespace Go.Proofs.YtopngdjhnljmfaaDoor.St

/-- The places from lo to hi - 1. -/
def rg (lo hi : Nat) : List Int := (List.range' lo (hi - lo)).map fun (i : Nat) => (i : Int)
theorem rg_length (lo hi : Nat) : (rg lo hi).length = hi - lo := by simp [rg]
theorem rg_mem {lo hi : Nat} {x : Int} : x ∈ rg lo hi ↔ (lo : Int) ≤ x ∧ x < (hi : Int) := by
  unfold rg
  rw [List.mem_map]
  constructor
  · rintro ⟨i, hi', rfl⟩
    rw [List.mem_range'_1] at hi'
    omega
  · rintro ⟨h1, h2⟩
    exact ⟨x.toNat, by rw [List.mem_range'_1]; omega, by omega⟩
theorem rg_asc (lo hi : Nat) : (rg lo hi).Pairwise (· < ·) := by
  unfold rg
  rw [List.pairwise_map]
  have h := List.pairwise_lt_range' (s := lo) (n := hi - lo)
  exact h.imp fun h => by omega
theorem rg_split {lo mid hi : Nat} (h1 : lo ≤ mid) (h2 : mid ≤ hi) : rg lo hi = rg lo mid ++ rg mid hi := by
  unfold rg
  rw [← List.map_append]
  congr 1
  have := List.range'_append_1 (s := lo) (m := mid - lo) (n := hi - mid)
  rw [show lo + (mid - lo) = mid by omega, show mid - lo + (hi - mid) = hi - lo by omega] at this
  exact this.symm
/-- The places from lo to hi - 1, in their order. -/
def SP (r : Int → Int) (lo hi : Nat) (l : List Int) : Prop := l.Perm (rg lo hi) ∧ Srt r l
theorem SP.length {r : Int → Int} {lo hi : Nat} {l : List Int} (h : SP r lo hi l) : l.length = hi - lo := by rw [h.1.length_eq, rg_length]
theorem SP.mem {r : Int → Int} {lo hi : Nat} {l : List Int} (h : SP r lo hi l) {x : Int} (hx : x ∈ l) : (lo : Int) ≤ x ∧ x < (hi : Int) := rg_mem.1 (h.1.mem_iff.1 hx)
theorem SP.join {r : Int → Int} {lo mid hi : Nat} {l1 l2 C : List Int} (h1 : SP r lo mid l1) (h2 : SP r mid hi l2) (hl : lo ≤ mid) (hm : mid ≤ hi) (hp : C.Perm (l1 ++ l2)) (hs : Srt r C) : SP r lo hi C :=
  ⟨hp.trans (by rw [rg_split hl hm]; exact h1.1.append h2.1), hs⟩
/-- k blocks of the size bs, from lo to hi. -/
def FB (r : Int → Int) (bs : Nat) : Nat → Nat → Nat → List Int → Prop
  | 0, lo, hi, l => lo = hi ∧ l = []
  | k + 1, lo, hi, l => ∃ l1 l2, l = l1 ++ l2 ∧ SP r lo (lo + bs) l1 ∧ FB r bs k (lo + bs) hi l2
theorem FB.le {r : Int → Int} {bs : Nat} : ∀ {k lo hi : Nat} {l : List Int}, FB r bs k lo hi l → lo ≤ hi ∧ l.length = hi - lo := by
  intro k
  induction k with
  | zero => rintro lo hi l ⟨rfl, rfl⟩; simp
  | succ k ih =>
    rintro lo hi l ⟨l1, l2, rfl, h1, h2⟩
    have := ih h2
    have := h1.length
    rw [List.length_append]
    omega
theorem FB.snoc {r : Int → Int} {bs : Nat} : ∀ {k lo hi : Nat} {l m : List Int}, FB r bs k lo hi l → SP r hi (hi + bs) m → FB r bs (k + 1) lo (hi + bs) (l ++ m) := by
  intro k
  induction k with
  | zero => rintro lo hi l m ⟨rfl, rfl⟩ h; exact ⟨m, [], by simp, h, rfl, rfl⟩
  | succ k ih =>
    rintro lo hi l m ⟨l1, l2, rfl, h1, h2⟩ h
    exact ⟨l1, l2 ++ m, by simp, h1, ih h2 h⟩
/-- All in order. -/
theorem FB.all {r : Int → Int} {bs k p n : Nat} {Q Z : List Int} (h : FB r bs k 0 p Q) (hz : SP r p n Z) (hp : p ≤ n) (hn : n < p + bs) (hb : n ≤ bs) : SP r 0 n (Q ++ Z) := by
  match k, h with
  | 0, ⟨h1, h2⟩ => subst h1 h2; simpa using hz
  | 1, ⟨l1, l2, h1, h2, h3, h4⟩ =>
    subst h1 h4
    have e : p = n := by omega
    subst e
    have hz0 : Z = [] := List.length_eq_zero_iff.1 (by rw [hz.length]; omega)
    subst hz0
    rw [show p = 0 + bs by omega]
    simpa using h2
  | k + 2, ⟨l1, l2, h1, h2, l3, l4, h3, h4, h5⟩ =>
    have := h5.le
    omega
end Go.Proofs.YtopngdjhnljmfaaDoor.St
