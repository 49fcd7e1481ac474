/- Walk of the reference: a period is cut at the limits of bands. -/
import Derived.Test.YtpbohnlfiaigjaaBdCut
import Derived.Test.YtpbohnlfiaigjaaBdMin
namespace Go.Proofs.Ytpbohnlfiaigjaa
open Go.RowKit

theorem gap {M : List Int} (h : M.Pairwise (· < ·)) {j : Nat} (hj : j < M.length) {x : Int} (hx : x ∈ M) : ¬ (M.getD j 0 < x ∧ (j + 1 < M.length → x < M.getD (j + 1) 1440)) := by
  rintro ⟨h1, h2⟩
  obtain ⟨i, hi, rfl⟩ := List.mem_iff_getElem.1 hx
  have hp := List.pairwise_iff_getElem.1 h
  simp only [List.getD, List.getElem?_eq_getElem hj, Option.getD_some] at h1
  have hji : j < i := by
    rcases Nat.lt_trichotomy i j with h' | h' | h'
    · have := hp i j hi hj h'; omega
    · subst h'; omega
    · exact h'
  have h3 := h2 (by omega)
  simp only [List.getD, List.getElem?_eq_getElem (show j + 1 < M.length by omega), Option.getD_some] at h3
  rcases Nat.lt_or_eq_of_le (show j + 1 ≤ i by omega) with h' | h'
  · have := hp (j + 1) i (by omega) hi h'; omega
  · subst h'; omega
theorem lmt_of {l : List Bd} {d : Bd} (hd : d ∈ l) {s : Sl} (hs : s ∈ d.2) {m : Int} (h : s.2.1 = m ∨ s.2.2 = m) : lmt l m = true := by
  unfold lmt
  rw [Bool.or_eq_true]
  refine .inr (List.any_eq_true.2 ⟨d, hd, List.any_eq_true.2 ⟨s, hs, ?_⟩⟩)
  unfold lmS
  rcases h with h | h <;> simp [h]
theorem minN_first (l : List Bd) : 0 < (minN l 1440).length ∧ (minN l 1440).getD 0 1440 = 0 := by
  have h0 : (0 : Int) ∈ minN l 1440 := minN_mem.2 ⟨by omega, by omega, by unfold lmt; simp⟩
  have h1 := minN_asc l 1440
  have h2 : ∀ x ∈ minN l 1440, 0 ≤ x := fun x hx => (minN_mem.1 hx).1
  generalize minN l 1440 = M at *
  match M, h0, h1, h2 with
  | x :: M, h0, h1, h2 =>
    refine ⟨by simp, ?_⟩
    show x = 0
    rcases List.mem_cons.1 h0 with h | h
    · exact h.symm
    · have := (List.pairwise_cons.1 h1).1 0 h
      have := h2 x (List.mem_cons_self ..)
      omega
/-- Within two neighbouring minutes of the list the band stays. -/
theorem ref_const {l : List Bd} (hol : List Int) (hok : ∀ d ∈ l, ∀ s ∈ d.2, okS s = true) {D x y : Int} {j : Nat} {mj nx : Int} (hj : j < (minN l 1440).length) (hm : (minN l 1440).getD j 0 = mj) (hn : (minN l 1440).getD (j + 1) 1440 = nx)
    (hD : D % 86400 = 0) (hx : D + mj * 60 ≤ x) (hy : y ≤ D + nx * 60) : ∀ t, x ≤ t → t < y → atV l hol t = atV l hol x := by
  have hmj : 0 ≤ mj := by
    have : (minN l 1440).getD j 0 ∈ minN l 1440 := by simp [List.getD, List.getElem?_eq_getElem hj]
    rw [hm] at this
    exact (minN_mem.1 this).1
  have hnx : nx ≤ 1440 := by
    by_cases h : j + 1 < (minN l 1440).length
    · have : (minN l 1440).getD (j + 1) 1440 ∈ minN l 1440 := by simp [List.getD, List.getElem?_eq_getElem h]
      rw [hn] at this
      have := (minN_mem.1 this).2.1
      omega
    · rw [← hn]; simp [List.getD, List.getElem?_eq_none (show (minN l 1440).length ≤ j + 1 by omega)]
  refine const_of fun t h1 h2 => atV_same hol hok fun d hd s hs => ?_
  have hs' := okS_iff.1 (hok d hd s hs)
  have hr : (t + 1) % 86400 = t + 1 - D := by omega
  have key : ∀ m : Int, (s.2.1 = m ∨ s.2.2 = m) → 0 ≤ m → m ≤ 1440 → t + 1 - D ≠ m * 60 := by
    intro m hm2 h3 h4 he
    have hlt : m < 1440 := by omega
    have := gap (minN_asc l 1440) hj (minN_mem.2 ⟨h3, by omega, lmt_of hd hs hm2⟩)
    rw [hm, hn] at this
    exact this ⟨by omega, fun _ => by omega⟩
  refine ⟨fun he => key s.2.1 (.inl rfl) (by omega) (by omega) (by omega), fun he => key s.2.2 (.inr rfl) (by omega) (by omega) (by omega), fun he => by omega⟩
def clp (a b t : Int) : Int := max a (min b t)
theorem clp_skip {a b X Y : Int} (hab : a < b) (hXY : X < Y) (h : min b Y ≤ max a X) : clp a b X = clp a b Y := by unfold clp; omega
theorem clp_from {a b X Y : Int} (h : max a X < min b Y) : clp a b X = max a X := by unfold clp; omega
theorem clp_to {a b X Y : Int} (hXY : X < Y) (h : max a X < min b Y) : clp a b Y = min b Y := by unfold clp; omega
theorem minN_next {l : List Bd} {j : Nat} {mj nx : Int} (hj : j < (minN l 1440).length) (hm : (minN l 1440).getD j 0 = mj) (hn : (minN l 1440).getD (j + 1) 1440 = nx) : mj < nx ∧ 0 ≤ mj ∧ nx ≤ 1440 := by
  have h0 : (minN l 1440).getD j 0 ∈ minN l 1440 := by simp [List.getD, List.getElem?_eq_getElem hj]
  rw [hm] at h0
  have h1 := minN_mem.1 h0
  by_cases h : j + 1 < (minN l 1440).length
  · have h2 : (minN l 1440).getD (j + 1) 1440 ∈ minN l 1440 := by simp [List.getD, List.getElem?_eq_getElem h]
    rw [hn] at h2
    have h3 := minN_mem.1 h2
    have h4 := List.pairwise_iff_getElem.1 (minN_asc l 1440) j (j + 1) hj h (by omega)
    simp only [List.getD, List.getElem?_eq_getElem hj, List.getElem?_eq_getElem h, Option.getD_some] at hm hn
    rw [hm, hn] at h4
    omega
  · have : nx = 1440 := by rw [← hn]; simp [List.getD, List.getElem?_eq_none (show (minN l 1440).length ≤ j + 1 by omega)]
    omega
end Go.Proofs.Ytpbohnlfiaigjaa
