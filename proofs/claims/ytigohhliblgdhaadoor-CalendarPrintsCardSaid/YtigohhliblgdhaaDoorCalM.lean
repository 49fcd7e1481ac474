/- Plain facts on years, months and days; nothing of the program. -/
import Derived.WalkKit
import Derived.ProofKit
import Derived.Lib.Hide
import Derived.WalkLawsBesides
import Derived.Below
namespace Go.Proofs.YtigohhliblgdhaaDoor
open Go.RowKit

theorem ret_int {k : IntKind} {a b : Int} (h : a = b) : Ending.returned (.int k a) = .returned (.int k b) := by rw [h]
theorem ret_bool {a b : Bool} (h : a = b) : Ending.returned (.bool a) = .returned (.bool b) := by rw [h]
theorem ret_ints {j k : IntKind} {a b x y : Int} (h : a = b) (h2 : x = y) : Ending.returned (.tuple #[.int j a, .int k x]) = .returned (.tuple #[.int j b, .int k y]) := by rw [h, h2]
theorem below_drewN {B : Nat} {a w : World} (h : Below B a w) (n : Nat) : Below B a (w.drewN n) := ⟨h.os, h.tape, h.output, h.size, h.block⟩
theorem bcell {W w1 : World} (hb : Below W.heap.size W w1) : (∀ b o, b < W.heap.size → w1.cell? ⟨b, o, none⟩ = W.cell? ⟨b, o, none⟩) ∧ (∀ b o, b < W.heap.size → w1.frozen? ⟨b, o, none⟩ = W.frozen? ⟨b, o, none⟩) :=
  ⟨fun b o h => hb.cell (p := ⟨b, o, none⟩) h, fun b o h => hb.frozen (p := ⟨b, o, none⟩) h⟩

def leapI (y : Int) : Bool := decide (y % 4 = 0) && (!decide (y % 100 = 0) || decide (y % 400 = 0))
def lpI (y : Int) : Int := if leapI y then 1 else 0
def okM (y m : Int) : Bool := decide (2000 ≤ y) && decide (y ≤ 2399) && decide (1 ≤ m) && decide (m ≤ 12)
def lenI (y m : Int) : Int := if okM y m then (if m = 2 then 28 + lpI y else if m = 4 ∨ m = 6 ∨ m = 9 ∨ m = 11 then 30 else 31) else 0
def nyr (y : Int) : Int := (y - 2000) * 365 + ((y - 2000 + 3) / 4 - (y - 2000 + 99) / 100 + (y - 2000 + 399) / 400)
/-- The days of the first k months of a year. -/
def cum (y : Int) : Nat → Int
  | 0 => 0
  | k + 1 => cum y k + lenI y (k + 1)
def okD (y m d : Int) : Bool := decide (1 ≤ d) && decide (d ≤ lenI y m)
def dayI (y m d : Int) : Int := nyr y + cum y (m - 1).toNat + d - 1

theorem okM_iff {y m : Int} : okM y m = true ↔ 2000 ≤ y ∧ y ≤ 2399 ∧ 1 ≤ m ∧ m ≤ 12 := by simp [okM, and_assoc]
theorem okD_iff {y m d : Int} : okD y m d = true ↔ 1 ≤ d ∧ d ≤ lenI y m := by simp [okD]
theorem lpI_01 (y : Int) : 0 ≤ lpI y ∧ lpI y ≤ 1 := by unfold lpI; split <;> omega
theorem len_out {y m : Int} (h : okM y m = false) : lenI y m = 0 := by simp [lenI, h]
theorem len_bd (y m : Int) : 0 ≤ lenI y m ∧ lenI y m ≤ 31 := by
  have := lpI_01 y
  unfold lenI; split
  · split
    · omega
    · split <;> omega
  · omega
theorem len_in {y m : Int} (h : okM y m = true) : 28 ≤ lenI y m := by
  have := lpI_01 y
  unfold lenI; rw [if_pos h]; split
  · omega
  · split <;> omega
theorem okM_of {y m d : Int} (h : okD y m d = true) : okM y m = true := by
  rw [okD_iff] at h
  cases hm : okM y m
  · rw [len_out hm] at h; omega
  · rfl
theorem nyr_succ (y : Int) (h : 2000 ≤ y) : nyr (y + 1) = nyr y + 365 + lpI y := by
  unfold nyr lpI leapI
  by_cases h4 : y % 4 = 0 <;> by_cases h100 : y % 100 = 0 <;> by_cases h400 : y % 400 = 0 <;> simp [h4, h100, h400] <;> omega
theorem nyr_mono (a b : Int) (h0 : 2000 ≤ a) (h : a ≤ b) : nyr a ≤ nyr b := by unfold nyr; omega
theorem nyr_bd (y : Int) (h : 2000 ≤ y) (h2 : y ≤ 2400) : 0 ≤ nyr y ∧ nyr y ≤ 146097 := by unfold nyr; omega
theorem nyr_guess (n : Int) (h : 0 ≤ n) (h2 : n < 146097) : nyr (2000 + n / 366) ≤ n ∧ 2000 + n / 366 ≤ 2399 := by unfold nyr; omega
theorem nyr_lo (y : Int) (h : 2000 ≤ y) : (y - 2000) * 365 ≤ nyr y := by unfold nyr; omega

theorem cum_step (y : Int) (k : Nat) : cum y (k + 1) = cum y k + lenI y (k + 1) := rfl
theorem cum_le (y : Int) (k : Nat) : 0 ≤ cum y k ∧ cum y k ≤ 31 * k := by
  induction k with
  | zero => simp [cum]
  | succ k ih => rw [cum_step]; have := len_bd y (k + 1); omega
theorem cum_mono (y : Int) (j k : Nat) (h : j ≤ k) : cum y j ≤ cum y k := by
  induction k with
  | zero =>
    obtain rfl : j = 0 := by omega
    exact Int.le_refl _
  | succ k ih =>
    rcases Nat.lt_or_ge k j with h1 | h1
    · obtain rfl : j = k + 1 := by omega
      exact Int.le_refl _
    · have := ih h1; rw [cum_step]; have := len_bd y (k + 1); omega
theorem cum_lo (y : Int) (hy : 2000 ≤ y) (hy2 : y ≤ 2399) (k : Nat) (hk : k ≤ 12) : 28 * (k : Int) ≤ cum y k := by
  induction k with
  | zero => simp [cum]
  | succ k ih =>
    have := ih (by omega)
    have hm : okM y ((k : Int) + 1) = true := okM_iff.2 ⟨hy, hy2, by omega, by omega⟩
    have := len_in hm
    rw [cum_step]; omega
theorem cum_year (y : Int) (hy : 2000 ≤ y) (hy2 : y ≤ 2399) : cum y 12 = 365 + lpI y := by
  have h : ∀ m : Int, 1 ≤ m → m ≤ 12 → okM y m = true := fun m h1 h2 => okM_iff.2 ⟨hy, hy2, h1, h2⟩
  simp only [cum, lenI]
  simp [h, Int.add_assoc]
  omega
theorem cum_out (y : Int) (h : ¬ (2000 ≤ y ∧ y ≤ 2399)) (k : Nat) : cum y k = 0 := by
  induction k with
  | zero => rfl
  | succ k ih =>
    rw [cum_step, ih, len_out]
    · rfl
    · cases hm : okM y ((k : Int) + 1)
      · rfl
      · exact absurd (okM_iff.1 hm) (by omega)

/-- The year, the month and the day of a day. -/
def findY (n : Int) : Nat → Int
  | 0 => 2000
  | k + 1 => if nyr (2000 + (k + 1 : Nat)) ≤ n then 2000 + (k + 1 : Nat) else findY n k
def findM (y r : Int) : Nat → Int
  | 0 => 1
  | k + 1 => if cum y (k + 1) ≤ r then (k + 2 : Nat) else findM y r k
def yrI (n : Int) : Int := findY n 399
def moI (n : Int) : Int := findM (yrI n) (n - nyr (yrI n)) 11
def dyI (n : Int) : Int := n - nyr (yrI n) - cum (yrI n) (moI n - 1).toNat + 1

theorem findY_spec (n : Int) (h : 0 ≤ n) (k : Nat) (hk : n < nyr (2000 + (k + 1 : Nat))) : 2000 ≤ findY n k ∧ findY n k ≤ 2000 + k ∧ nyr (findY n k) ≤ n ∧ n < nyr (findY n k + 1) := by
  induction k with
  | zero => refine ⟨by simp [findY], by simp [findY], ?_, by simpa [findY] using hk⟩; simp only [findY]; unfold nyr; omega
  | succ k ih =>
    unfold findY
    by_cases hc : nyr (2000 + (k + 1 : Nat)) ≤ n
    · rw [if_pos hc]
      refine ⟨by omega, by omega, hc, ?_⟩
      have e : (2000 : Int) + ((k + 1 : Nat) : Int) + 1 = 2000 + ((k + 1 + 1 : Nat) : Int) := by omega
      rw [e]; exact hk
    · rw [if_neg hc]
      obtain ⟨h1, h2, h3, h4⟩ := ih (by omega)
      exact ⟨h1, by omega, h3, h4⟩
theorem findM_spec (y r : Int) (h : 0 ≤ r) (k : Nat) (hk : r < cum y (k + 1)) : 1 ≤ findM y r k ∧ findM y r k ≤ k + 1 ∧ cum y (findM y r k - 1).toNat ≤ r ∧ r < cum y (findM y r k - 1).toNat + lenI y (findM y r k) := by
  induction k with
  | zero => refine ⟨by simp [findM], by simp [findM], by simpa [findM, cum] using h, ?_⟩; simpa [findM, cum] using hk
  | succ k ih =>
    unfold findM
    by_cases hc : cum y (k + 1) ≤ r
    · rw [if_pos hc]
      have e : (((k + 2 : Nat) : Int) - 1).toNat = k + 1 := by omega
      refine ⟨by omega, by omega, by rw [e]; exact hc, ?_⟩
      rw [e]
      rw [cum_step] at hk
      have e2 : ((k + 2 : Nat) : Int) = ((k + 1 : Nat) : Int) + 1 := by omega
      rw [e2]; exact hk
    · rw [if_neg hc]
      obtain ⟨h1, h2, h3, h4⟩ := ih (by omega)
      exact ⟨h1, by omega, h3, h4⟩
theorem yr_spec (n : Int) (h : 0 ≤ n) (h2 : n < 146097) : 2000 ≤ yrI n ∧ yrI n ≤ 2399 ∧ nyr (yrI n) ≤ n ∧ n < nyr (yrI n + 1) := by
  obtain ⟨a, b, c, d⟩ := findY_spec n h 399 (by rw [show nyr (2000 + ((399 + 1 : Nat) : Int)) = 146097 by decide]; exact h2)
  exact ⟨a, by unfold yrI; omega, c, d⟩
theorem date_spec (n : Int) (h : 0 ≤ n) (h2 : n < 146097) : okD (yrI n) (moI n) (dyI n) = true ∧ dayI (yrI n) (moI n) (dyI n) = n := by
  obtain ⟨a, b, c, d⟩ := yr_spec n h h2
  have hc := cum_year (yrI n) a b
  have hs := nyr_succ (yrI n) a
  obtain ⟨e, f, g, i⟩ := findM_spec (yrI n) (n - nyr (yrI n)) (by omega) 11 (by rw [hc]; omega)
  refine ⟨okD_iff.2 ⟨?_, ?_⟩, ?_⟩
  · unfold dyI; unfold moI; omega
  · unfold dyI; unfold moI; omega
  · unfold dayI dyI; omega
theorem date_uniq {n y m d : Int} (h : okD y m d = true) (h2 : dayI y m d = n) : 0 ≤ n ∧ n < 146097 ∧ yrI n = y ∧ moI n = m ∧ dyI n = d := by
  have hM := okM_iff.1 (okM_of h)
  rw [okD_iff] at h
  obtain ⟨hy, hy2, hm, hm2⟩ := hM
  have cy := cum_year y hy hy2
  have ys := nyr_succ y hy
  have yb := nyr_bd y hy (by omega)
  have yb1 := nyr_bd (y + 1) (by omega) (by omega)
  have cs := cum_step y (m - 1).toNat
  have em : (((m - 1).toNat : Nat) : Int) + 1 = m := by omega
  rw [em] at cs
  have cm := cum_mono y ((m - 1).toNat + 1) 12 (by omega)
  have c0 := cum_le y (m - 1).toNat
  unfold dayI at h2
  have hn0 : 0 ≤ n := by omega
  have hn1 : n < 146097 := by omega
  obtain ⟨a, b, c, e⟩ := yr_spec n hn0 hn1
  have hyr : yrI n = y := by
    rcases Int.lt_trichotomy (yrI n) y with hlt | heq | hgt
    · have := nyr_mono (yrI n + 1) y (by omega) (by omega); omega
    · exact heq
    · have := nyr_mono (y + 1) (yrI n) (by omega) (by omega); omega
  obtain ⟨s1, s2⟩ := date_spec n hn0 hn1
  have sM := okM_iff.1 (okM_of s1)
  rw [okD_iff] at s1
  unfold dayI at s2
  rw [hyr] at s1 s2 sM
  have cs' := cum_step y (moI n - 1).toNat
  have em' : (((moI n - 1).toNat : Nat) : Int) + 1 = moI n := by omega
  rw [em'] at cs'
  have hmo : moI n = m := by
    rcases Int.lt_trichotomy (moI n) m with hlt | heq | hgt
    · have := cum_mono y ((moI n - 1).toNat + 1) (m - 1).toNat (by omega); omega
    · exact heq
    · have := cum_mono y ((m - 1).toNat + 1) (moI n - 1).toNat (by omega); omega
  rw [hmo] at s2
  exact ⟨hn0, hn1, hyr, hmo, by omega⟩
theorem day_range {y m d : Int} (h : okD y m d = true) : 0 ≤ dayI y m d ∧ dayI y m d < 146097 := by
  obtain ⟨a, b, _⟩ := date_uniq h rfl
  exact ⟨a, b⟩
end Go.Proofs.YtigohhliblgdhaaDoor
