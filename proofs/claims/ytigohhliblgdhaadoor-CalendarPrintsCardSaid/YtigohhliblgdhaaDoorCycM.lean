/- Plain facts on monthly cycles; nothing of the program. -/
import Derived.Test.YtigohhliblgdhaaDoorCalM
namespace Go.Proofs.YtigohhliblgdhaaDoor
open Go.RowKit

/-- The first day of a month, counted from the first one, 0, on. -/
def fst (m : Int) : Int := nyr (2000 + m / 12) + cum (2000 + m / 12) (m % 12).toNat
/-- The instant at which the cycle of a month begins. -/
def st (a m : Int) : Int := if m < 0 then 0 else if 4800 ≤ m then 12622780800 else (fst m + a - 1) * 86400
/-- The month in which the cycle that contains an instant begins. -/
def mon (a t : Int) : Int := (yrI (t / 86400) - 2000) * 12 + moI (t / 86400) - 1 - (if dyI (t / 86400) < a then 1 else 0)
def okA (a : Int) : Bool := decide (1 ≤ a) && decide (a ≤ 28)
def okT (t : Int) : Bool := decide (0 ≤ t) && decide (t < 12622780800)
def okP (f t : Int) : Bool := decide (0 ≤ f) && decide (f < t) && decide (t ≤ 12622780800)
theorem okA_iff {a : Int} : okA a = true ↔ 1 ≤ a ∧ a ≤ 28 := by simp [okA]
theorem okT_iff {a : Int} : okT a = true ↔ 0 ≤ a ∧ a < 12622780800 := by simp [okT]
theorem okP_iff {f t : Int} : okP f t = true ↔ 0 ≤ f ∧ f < t ∧ t ≤ 12622780800 := by simp [okP, and_assoc]

theorem fst_step (m : Int) (h : 0 ≤ m) (h2 : m < 4800) : fst (m + 1) = fst m + lenI (2000 + m / 12) (m % 12 + 1) := by
  unfold fst
  have hy := nyr_succ (2000 + m / 12) (by omega)
  have hc := cum_year (2000 + m / 12) (by omega) (by omega)
  by_cases h11 : m % 12 = 11
  · have e1 : 2000 + (m + 1) / 12 = 2000 + m / 12 + 1 := by omega
    have e2 : ((m + 1) % 12).toNat = 0 := by omega
    have e3 : (m % 12).toNat = 11 := by omega
    rw [e1, e2, e3, h11]
    have hs := cum_step (2000 + m / 12) 11
    have hs' : cum (2000 + m / 12) 12 = cum (2000 + m / 12) 11 + lenI (2000 + m / 12) (11 + 1) := hs
    simp only [cum] at *
    omega
  · have e1 : 2000 + (m + 1) / 12 = 2000 + m / 12 := by omega
    have e2 : ((m + 1) % 12).toNat = (m % 12).toNat + 1 := by omega
    have hs := cum_step (2000 + m / 12) (m % 12).toNat
    have e3 : (((m % 12).toNat : Nat) : Int) + 1 = m % 12 + 1 := by omega
    rw [e3] at hs
    rw [e1, e2, hs]
    omega
theorem fst_zero : fst 0 = 0 := by decide
theorem fst_end : fst 4800 = 146097 := by decide
theorem fst_len (m : Int) (h : 0 ≤ m) (h2 : m < 4800) : fst m + 28 ≤ fst (m + 1) ∧ fst (m + 1) ≤ fst m + 31 := by
  rw [fst_step m h h2]
  have := len_in (y := 2000 + m / 12) (m := m % 12 + 1) (okM_iff.2 ⟨by omega, by omega, by omega, by omega⟩)
  have := len_bd (2000 + m / 12) (m % 12 + 1)
  omega
theorem fst_mono (a : Int) (n : Nat) (h : 0 ≤ a) (h2 : a + n ≤ 4800) : fst a ≤ fst (a + n) := by
  induction n with
  | zero => simp
  | succ n ih =>
    have := ih (by omega)
    have := fst_len (a + n) (by omega) (by omega)
    have e : a + ((n + 1 : Nat) : Int) = a + n + 1 := by omega
    rw [e]; omega
theorem fst_le (a b : Int) (h : 0 ≤ a) (h1 : a ≤ b) (h2 : b ≤ 4800) : fst a ≤ fst b := by
  have := fst_mono a (b - a).toNat h (by omega)
  rw [show a + ((b - a).toNat : Int) = b by omega] at this
  exact this
theorem fst_bd (m : Int) (h : 0 ≤ m) (h2 : m ≤ 4800) : 0 ≤ fst m ∧ fst m ≤ 146097 := by
  have h1 := fst_le 0 m (by omega) h h2
  have h3 := fst_le m 4800 h h2 (by omega)
  rw [fst_zero] at h1
  rw [fst_end] at h3
  exact ⟨h1, h3⟩
theorem st_in (a m : Int) (h : 0 ≤ m) (h2 : m < 4800) : st a m = (fst m + a - 1) * 86400 := by
  unfold st; rw [if_neg (by omega), if_neg (by omega)]
theorem st_neg (a m : Int) (h : m < 0) : st a m = 0 := by unfold st; rw [if_pos h]
theorem st_end (a m : Int) (h : 4800 ≤ m) : st a m = 12622780800 := by unfold st; rw [if_neg (by omega), if_pos h]
theorem st_bd (a m : Int) (ha : 1 ≤ a) (ha2 : a ≤ 28) : 0 ≤ st a m ∧ st a m ≤ 12622780800 := by
  by_cases h : m < 0
  · rw [st_neg a m h]; omega
  · by_cases h2 : 4800 ≤ m
    · rw [st_end a m h2]; omega
    · rw [st_in a m (by omega) (by omega)]
      have h3 := fst_len m (by omega) (by omega)
      have h4 := fst_bd m (by omega) (by omega)
      have h5 := fst_bd (m + 1) (by omega) (by omega)
      omega
theorem st_step (a m : Int) (ha : 1 ≤ a) (ha2 : a ≤ 28) : st a m ≤ st a (m + 1) := by
  by_cases h : m < 0
  · rw [st_neg a m h]; exact (st_bd a _ ha ha2).1
  · by_cases h2 : 4800 ≤ m + 1
    · rw [st_end a _ h2]; exact (st_bd a _ ha ha2).2
    · rw [st_in a m (by omega) (by omega), st_in a (m + 1) (by omega) (by omega)]
      have h3 := fst_len m (by omega) (by omega)
      omega
/-- From the first month on each cycle has an instant. -/
theorem st_lt (a m : Int) (ha : 1 ≤ a) (ha2 : a ≤ 28) (h : 0 ≤ m) (h2 : m < 4800) : st a m + 86400 ≤ st a (m + 1) := by
  have h3 := fst_len m (by omega) (by omega)
  rw [st_in a m (by omega) (by omega)]
  by_cases h4 : 4800 ≤ m + 1
  · obtain rfl : m = 4799 := by omega
    rw [st_end a _ h4]
    have := fst_end
    have e : (4799 : Int) + 1 = 4800 := by omega
    rw [e] at h3
    omega
  · rw [st_in a (m + 1) (by omega) (by omega)]
    omega
theorem st_month (a m : Int) (ha : 1 ≤ a) (ha2 : a ≤ 28) (h : 0 ≤ m) (h2 : m < 4800) : st a m + 28 * 86400 ≤ st a (m + 1) ∨ m = 4799 := by
  have h3 := fst_len m (by omega) (by omega)
  rw [st_in a m (by omega) (by omega)]
  by_cases h4 : 4800 ≤ m + 1
  · right; omega
  · left
    rw [st_in a (m + 1) (by omega) (by omega)]
    omega
theorem st_mono (a m : Int) (n : Nat) (ha : 1 ≤ a) (ha2 : a ≤ 28) : st a m ≤ st a (m + n) := by
  induction n with
  | zero => simp
  | succ n ih =>
    have := st_step a (m + n) ha ha2
    have e : m + ((n + 1 : Nat) : Int) = m + n + 1 := by omega
    rw [e]; omega
theorem st_le (a m n : Int) (ha : 1 ≤ a) (ha2 : a ≤ 28) (h : m ≤ n) : st a m ≤ st a n := by
  have := st_mono a m (n - m).toNat ha ha2
  rw [show m + ((n - m).toNat : Int) = n by omega] at this
  exact this

/-- The cycle of an instant: its month, and that the instant lies in it. -/
theorem mon_spec (a t : Int) (ha : 1 ≤ a) (ha2 : a ≤ 28) (ht : 0 ≤ t) (ht2 : t < 12622780800) :
    -1 ≤ mon a t ∧ mon a t ≤ 4799 ∧ st a (mon a t) ≤ t ∧ t < st a (mon a t + 1) := by
  have hn : 0 ≤ t / 86400 := by omega
  have hn2 : t / 86400 < 146097 := by omega
  have ht3 : t / 86400 * 86400 ≤ t := by omega
  have ht4 : t < (t / 86400 + 1) * 86400 := by omega
  obtain ⟨s1, s2⟩ := date_spec (t / 86400) hn hn2
  have sM := okM_iff.1 (okM_of s1)
  rw [okD_iff] at s1
  unfold mon
  generalize t / 86400 = n at *
  generalize yrI n = y at *
  generalize moI n = m at *
  generalize dyI n = d at *
  obtain ⟨hy, hy2, hm, hm2⟩ := sM
  obtain ⟨M, hM⟩ : ∃ M : Int, (y - 2000) * 12 + m - 1 = M := ⟨_, rfl⟩
  rw [hM]
  have hM0 : 0 ≤ M := by omega
  have hM1 : M ≤ 4799 := by omega
  have eY : 2000 + M / 12 = y := by omega
  have eM : M % 12 = m - 1 := by omega
  have hf : n = fst M + d - 1 := by
    unfold fst
    rw [eY, eM]
    unfold dayI at s2
    omega
  have hstep := fst_step M hM0 (by omega)
  rw [eY, eM] at hstep
  rw [show m - 1 + 1 = m by omega] at hstep
  have hlo := fst_bd M hM0 (by omega)
  by_cases hd : d < a
  · rw [if_pos hd]
    refine ⟨by omega, by omega, ?_, ?_⟩
    · by_cases h0 : M = 0
      · rw [st_neg a _ (by omega)]; exact ht
      · rw [st_in a (M - 1) (by omega) (by omega)]
        have := fst_len (M - 1) (by omega) (by omega)
        rw [show M - 1 + 1 = M by omega] at this
        omega
    · rw [show M - 1 + 1 = M by omega, st_in a M hM0 (by omega)]
      omega
  · rw [if_neg hd]
    refine ⟨by omega, by omega, ?_, ?_⟩
    · rw [show M - 0 = M by omega, st_in a M hM0 (by omega)]
      omega
    · rw [show M - 0 + 1 = M + 1 by omega]
      by_cases h2 : 4800 ≤ M + 1
      · rw [st_end a _ h2]; exact ht2
      · rw [st_in a (M + 1) (by omega) (by omega)]
        omega
theorem mon_uniq (a t m : Int) (ha : 1 ≤ a) (ha2 : a ≤ 28) (ht : 0 ≤ t) (ht2 : t < 12622780800) (h : st a m ≤ t) (h2 : t < st a (m + 1)) : m = mon a t ∨ (m < 0 ∧ mon a t < 0) := by
  obtain ⟨h3, h4, h5, h6⟩ := mon_spec a t ha ha2 ht ht2
  generalize mon a t = M at *
  rcases Int.lt_trichotomy m M with h7 | h7 | h7
  · have := st_le a (m + 1) M ha ha2 (by omega); omega
  · exact .inl h7
  · have := st_le a (M + 1) m ha ha2 (by omega); omega
theorem mon_of (a t m : Int) (ha : 1 ≤ a) (ha2 : a ≤ 28) (hm : -1 ≤ m) (hm2 : m ≤ 4799) (h : st a m ≤ t) (h2 : t < st a (m + 1)) : m = mon a t := by
  have b1 := st_bd a m ha ha2
  have b2 := st_bd a (m + 1) ha ha2
  obtain ⟨h3, h4, h5, h6⟩ := mon_spec a t ha ha2 (by omega) (by omega)
  rcases mon_uniq a t m ha ha2 (by omega) (by omega) h h2 with h7 | h7
  · exact h7
  · omega
theorem mon_mono (a s t : Int) (ha : 1 ≤ a) (ha2 : a ≤ 28) (hs : 0 ≤ s) (h : s ≤ t) (ht2 : t < 12622780800) : mon a s ≤ mon a t := by
  obtain ⟨h3, h4, h5, h6⟩ := mon_spec a s ha ha2 hs (by omega)
  obtain ⟨g3, g4, g5, g6⟩ := mon_spec a t ha ha2 (by omega) ht2
  rcases lt_or_le'' (mon a t) (mon a s) with h7 | h7
  · have := st_le a (mon a t + 1) (mon a s) ha ha2 (by omega); omega
  · exact h7
where lt_or_le'' (a b : Int) : a < b ∨ b ≤ a := by omega
/-- A month's cycle touches a period exactly between the months of its ends. -/
theorem touch (a f t k : Int) (ha : 1 ≤ a) (ha2 : a ≤ 28) (hf : 0 ≤ f) (hft : f < t) (ht : t ≤ 12622780800) (hk : -1 ≤ k) (hk2 : k ≤ 4799) :
    (st a k < st a (k + 1) ∧ st a k < t ∧ f < st a (k + 1)) ↔ (mon a f ≤ k ∧ k ≤ mon a (t - 1)) := by
  obtain ⟨h3, h4, h5, h6⟩ := mon_spec a f ha ha2 hf (by omega)
  obtain ⟨g3, g4, g5, g6⟩ := mon_spec a (t - 1) ha ha2 (by omega) (by omega)
  generalize mon a f = M at *
  generalize mon a (t - 1) = M2 at *
  constructor
  · rintro ⟨a1, a2, a3⟩
    constructor
    · by_cases h7 : M ≤ k
      · exact h7
      · have := st_le a (k + 1) M ha ha2 (by omega); omega
    · by_cases h7 : k ≤ M2
      · exact h7
      · have := st_le a (M2 + 1) k ha ha2 (by omega); omega
  · rintro ⟨a1, a2⟩
    have b1 := st_le a (M + 1) (k + 1) ha ha2 (by omega)
    have b2 := st_le a k M2 ha ha2 a2
    have b3 := st_le a M k ha ha2 a1
    refine ⟨?_, by omega, by omega⟩
    by_cases h8 : 0 ≤ k
    · have := st_lt a k ha ha2 h8 (by omega); omega
    · obtain rfl : k = -1 := by omega
      rw [st_neg a (-1) (by omega)]; omega

/-- The cells of j cycles from a month on. -/
def cyc (a M : Int) : Nat → List Value
  | 0 => []
  | j + 1 => cyc a M j ++ [.int .i64 (st a (M + j)), .int .i64 (st a (M + j + 1))]
theorem cyc_step (a M : Int) (j : Nat) : cyc a M (j + 1) = cyc a M j ++ [.int .i64 (st a (M + j)), .int .i64 (st a (M + j + 1))] := rfl
theorem cyc_length (a M : Int) (j : Nat) : (cyc a M j).length = 2 * j := by
  induction j with
  | zero => rfl
  | succ j ih => rw [cyc_step, List.length_append, ih]; simp; omega
theorem cyc_at (a M : Int) (n j : Nat) (h : j < n) : (cyc a M n)[j * 2]? = some (.int .i64 (st a (M + j))) ∧ (cyc a M n)[j * 2 + 1]? = some (.int .i64 (st a (M + j + 1))) := by
  induction n with
  | zero => omega
  | succ n ih =>
    rw [cyc_step]
    have hl := cyc_length a M n
    rcases Nat.lt_or_ge j n with h2 | h2
    · obtain ⟨h3, h4⟩ := ih h2
      rw [List.getElem?_append_left (by omega), List.getElem?_append_left (by omega)]
      exact ⟨h3, h4⟩
    · obtain rfl : j = n := by omega
      rw [List.getElem?_append_right (by omega), List.getElem?_append_right (by omega), hl]
      rw [show j * 2 - 2 * j = 0 by omega, show j * 2 + 1 - 2 * j = 1 by omega]
      exact ⟨rfl, rfl⟩
theorem cyc_one (a M : Int) (j : Nat) : ∀ u ∈ cyc a M j, u.oneCell' = true := by
  induction j with
  | zero => simp [cyc]
  | succ j ih =>
    intro u hu
    rw [cyc_step, List.mem_append] at hu
    rcases hu with hu | hu
    · exact ih u hu
    · simp at hu
      rcases hu with rfl | rfl <;> rfl
end Go.Proofs.YtigohhliblgdhaaDoor
