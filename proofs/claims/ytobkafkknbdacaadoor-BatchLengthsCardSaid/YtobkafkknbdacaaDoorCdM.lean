/- Pure mathematics: the bytes of numbers, and how a number is read from the beginning of bytes. -/
import Derived.Laws.BytesArg
namespace Go.Proofs.YtobkafkknbdacaaDoor

/-- The groups of seven bits. -/
def grp (u : Nat) : List Int := if u < 128 then [(u : Int)] else ((u % 128 + 128 : Nat) : Int) :: grp (u / 128)
termination_by u
decreasing_by omega
theorem grp_small {u : Nat} (h : u < 128) : grp u = [(u : Int)] := by rw [grp]; simp [h]
theorem grp_big {u : Nat} (h : 128 ≤ u) : grp u = ((u % 128 + 128 : Nat) : Int) :: grp (u / 128) := by rw [grp]; simp [Nat.not_lt.2 h]
theorem grp_pos (u : Nat) : 0 < (grp u).length := by
  rcases Nat.lt_or_ge u 128 with h | h
  · simp [grp_small h]
  · simp [grp_big h]
theorem grp_byte (u : Nat) : ∀ x ∈ grp u, 0 ≤ x ∧ x ≤ 255 := by
  induction u using Nat.strongRecOn with
  | ind u ih =>
    intro x hx
    rcases Nat.lt_or_ge u 128 with h | h
    · rw [grp_small h] at hx
      simp at hx; omega
    · rw [grp_big h, List.mem_cons] at hx
      rcases hx with rfl | hx
      · omega
      · exact ih (u / 128) (by omega) x hx
theorem grp_len (k : Nat) : ∀ u, u < 128 ^ (k + 1) → (grp u).length ≤ k + 1 := by
  induction k with
  | zero => intro u h; rw [grp_small (by simpa using h)]; simp
  | succ k ih =>
    intro u h
    rcases Nat.lt_or_ge u 128 with h1 | h1
    · simp [grp_small h1]
    · rw [grp_big h1, List.length_cons]
      have := ih (u / 128) (by rw [Nat.div_lt_iff_lt_mul (by decide)]; rwa [Nat.pow_succ] at h)
      omega

/-- The number that stands for a number in the bytes. -/
def zig (n : Int) : Nat := if n < 0 then (-2 * n - 1).toNat else (2 * n).toNat
def unz (u : Nat) : Int := if u % 2 = 1 then -((u / 2 : Nat) : Int) - 1 else ((u / 2 : Nat) : Int)
theorem unz_zig (n : Int) : unz (zig n) = n := by
  unfold unz zig
  split <;> split <;> omega
theorem zig_unz (u : Nat) : zig (unz u) = u := by
  unfold unz zig
  split <;> split <;> omega
theorem zig_lt {n : Int} (h1 : -9223372036854775808 ≤ n) (h2 : n ≤ 9223372036854775807) : zig n < 18446744073709551616 := by
  unfold zig; split <;> omega
/-- The bytes of a number. -/
def numE (n : Int) : List Int := grp (zig n)

/-- What is decoded from group number i on: the error, the number, what remains. -/
def dec (i acc : Nat) : List Int → Int × Nat × List Int
  | [] => (2, 0, [])
  | x :: t => if (i = 9 ∧ x ≠ 1) ∨ (0 < i ∧ x = 0) then (1, 0, []) else if 128 ≤ x then dec (i + 1) (acc + (x % 128).toNat * 128 ^ i) t else (0, acc + (x % 128).toNat * 128 ^ i, t)

theorem pow9 : (128 : Nat) ^ 9 = 9223372036854775808 := by decide
theorem pow_up {i : Nat} (h : 9 ≤ i) : 9223372036854775808 ≤ 128 ^ i := by
  rw [← pow9]; exact Nat.pow_le_pow_right (by decide) h

theorem dec_grp (u : Nat) : ∀ (i acc : Nat) (t : List Int), i ≤ 9 → u * 128 ^ i < 18446744073709551616 → (0 < i → 0 < u) → dec i acc (grp u ++ t) = (0, acc + u * 128 ^ i, t) := by
  induction u using Nat.strongRecOn with
  | ind u ih =>
    intro i acc t hi hu hp
    rcases Nat.lt_or_ge u 128 with h | h
    · rw [grp_small h]
      have h1 : ¬ ((i = 9 ∧ (u : Int) ≠ 1) ∨ (0 < i ∧ (u : Int) = 0)) := by
        rintro (⟨rfl, h1⟩ | ⟨h1, h2⟩)
        · rw [pow9] at hu
          have := hp (by omega)
          omega
        · have := hp h1; omega
      have e : ((u : Int) % 128).toNat = u := by omega
      simp only [List.cons_append, List.nil_append, dec, if_neg h1, e]
      rw [if_neg (by omega)]
    · rw [grp_big h]
      have h9 : i ≠ 9 := by
        rintro rfl
        rw [pow9] at hu; omega
      have h1 : ¬ ((i = 9 ∧ ((u % 128 + 128 : Nat) : Int) ≠ 1) ∨ (0 < i ∧ ((u % 128 + 128 : Nat) : Int) = 0)) := by omega
      have e : (((u % 128 + 128 : Nat) : Int) % 128).toNat = u % 128 := by omega
      simp only [List.cons_append, dec, if_neg h1, e]
      have ek : u / 128 * 128 ^ (i + 1) + u % 128 * 128 ^ i = u * 128 ^ i := by
        rw [Nat.pow_succ, Nat.mul_comm (128 ^ i) 128, ← Nat.mul_assoc, ← Nat.add_mul]
        congr 1; omega
      rw [if_pos (by omega), ih (u / 128) (by omega) (i + 1) _ t (by omega) (by omega) (by omega)]
      congr 2; omega

theorem dec_cut (u : Nat) : ∀ (i acc k : Nat), i ≤ 9 → u * 128 ^ i < 18446744073709551616 → (0 < i → 0 < u) → k < (grp u).length → dec i acc ((grp u).take k) = (2, 0, []) := by
  induction u using Nat.strongRecOn with
  | ind u ih =>
    intro i acc k hi hu hp hk
    rcases Nat.lt_or_ge u 128 with h | h
    · rw [grp_small h] at hk ⊢
      obtain rfl : k = 0 := by simpa using hk
      rfl
    · rw [grp_big h] at hk ⊢
      have h9 : i ≠ 9 := by
        rintro rfl
        rw [pow9] at hu; omega
      have h1 : ¬ ((i = 9 ∧ ((u % 128 + 128 : Nat) : Int) ≠ 1) ∨ (0 < i ∧ ((u % 128 + 128 : Nat) : Int) = 0)) := by omega
      cases k with
      | zero => rfl
      | succ k =>
        have ek : u / 128 * 128 ^ (i + 1) + u % 128 * 128 ^ i = u * 128 ^ i := by
          rw [Nat.pow_succ, Nat.mul_comm (128 ^ i) 128, ← Nat.mul_assoc, ← Nat.add_mul]
          congr 1; omega
        simp only [List.take_succ_cons, dec, if_neg h1]
        rw [if_pos (by omega)]
        exact ih (u / 128) (by omega) (i + 1) _ k (by omega) (by omega) (by omega) (by simpa using hk)

theorem dec_only : ∀ (b : List Int) (i acc u : Nat) (r : List Int), (∀ x ∈ b, 0 ≤ x ∧ x ≤ 255) → dec i acc b = (0, u, r) → ∃ v, u = acc + v * 128 ^ i ∧ b = grp v ++ r ∧ (0 < i → 0 < v) := by
  intro b
  induction b with
  | nil => intro i acc u r _ h; simp [dec] at h
  | cons x t ih =>
    intro i acc u r hb h
    have hx := hb x (List.mem_cons_self ..)
    simp only [dec] at h
    split at h
    · simp at h
    · rename_i h1
      split at h
      · rename_i h2
        obtain ⟨v, e1, e2, e3⟩ := ih (i + 1) _ u r (fun y hy => hb y (List.mem_cons_of_mem _ hy)) h
        have hv := e3 (by omega)
        refine ⟨v * 128 + (x % 128).toNat, ?_, ?_, fun _ => by omega⟩
        · rw [e1, Nat.add_mul, Nat.pow_succ, Nat.mul_assoc, Nat.mul_comm 128 (128 ^ i)]; omega
        · rw [grp_big (by omega), e2, show (v * 128 + (x % 128).toNat) / 128 = v by omega, List.cons_append]
          congr 1; omega
      · simp only [Prod.mk.injEq] at h
        obtain ⟨_, rfl, rfl⟩ := h
        refine ⟨x.toNat, ?_, ?_, fun _ => by omega⟩
        · rw [show (x % 128).toNat = x.toNat by omega]
        · rw [grp_small (by omega)]
          simp; omega

/-- The errors of a number, and what they leave. -/
theorem dec_err : ∀ (b : List Int) (i acc : Nat), (dec i acc b).1 = 0 ∨ (dec i acc b = (1, 0, [])) ∨ (dec i acc b = (2, 0, [])) := by
  intro b
  induction b with
  | nil => intro i acc; simp [dec]
  | cons x t ih =>
    intro i acc
    simp only [dec]
    split
    · simp
    · split
      · exact ih _ _
      · simp

/-- What is being read: the bytes that remain, and the error. -/
abbrev St := List Int × Int
/-- A number. -/
def numR (s : St) : Int × St :=
  if s.2 = 0 then (if (dec 0 0 s.1).1 = 0 then (unz (dec 0 0 s.1).2.1, ((dec 0 0 s.1).2.2, 0)) else (0, ([], (dec 0 0 s.1).1))) else (0, ([], s.2))
theorem numR_stop {s : St} (h : s.2 ≠ 0) : numR s = (0, ([], s.2)) := by simp [numR, h]
theorem numR_err (s : St) (h : (numR s).2.2 ≠ 0) : (numR s).1 = 0 ∧ (numR s).2.1 = [] := by
  unfold numR at *
  split
  · rename_i h0
    rw [if_pos h0] at h
    split
    · rename_i h1; rw [if_pos h1] at h; exact absurd rfl h
    · exact ⟨rfl, rfl⟩
  · exact ⟨rfl, rfl⟩
theorem numR_back (n : Int) (t : List Int) (h1 : -9223372036854775808 ≤ n) (h2 : n ≤ 9223372036854775807) : numR (numE n ++ t, 0) = (n, (t, 0)) := by
  have h := dec_grp (zig n) 0 0 t (by omega) (by have := zig_lt h1 h2; omega) (by omega)
  simp only [numR, numE, h]
  simp [unz_zig]
theorem numR_cut (n : Int) (k : Nat) (h1 : -9223372036854775808 ≤ n) (h2 : n ≤ 9223372036854775807) (hk : k < (numE n).length) : numR ((numE n).take k, 0) = (0, ([], 2)) := by
  have h := dec_cut (zig n) 0 0 k (by omega) (by have := zig_lt h1 h2; omega) (by omega) hk
  simp only [numR, numE, h]
  simp
theorem numR_only {s : St} {n : Int} {r : List Int} (hb : ∀ x ∈ s.1, 0 ≤ x ∧ x ≤ 255) (h : numR s = (n, (r, 0))) : s.1 = numE n ++ r ∧ s.2 = 0 := by
  unfold numR at h
  split at h
  · rename_i h0
    split at h
    · rename_i h1
      simp only [Prod.mk.injEq, and_true] at h
      obtain ⟨rfl, rfl⟩ := h
      obtain ⟨v, e1, e2, _⟩ := dec_only s.1 0 0 (dec 0 0 s.1).2.1 (dec 0 0 s.1).2.2 hb (by rw [← h1])
      refine ⟨?_, h0⟩
      rw [numE, zig_unz]
      rw [show (dec 0 0 s.1).2.1 = v by simpa using e1]
      exact e2
    · rename_i h1
      simp only [Prod.mk.injEq] at h
      exact absurd h.2.2 h1
  · rename_i h0
    simp only [Prod.mk.injEq] at h
    exact absurd h.2.2 h0
end Go.Proofs.YtobkafkknbdacaaDoor
