/- Plain facts: the longest prefix found so far. -/
import Derived.Test.YtflonakoagjmhaaZnRz
import Derived.Lib.Strings
namespace Go.Proofs.Ytflonakoagjmhaa.Zn
open Go.RowKit Go.Proofs.Ytflonakoagjmhaa Go.Maps

theorem pfx {s p : Wd} : Lib.hasPrefix s p = true ↔ p.length ≤ s.length ∧ s.take p.length = p := by
  rw [← Lib.hasPrefix_of_take]; simp
/-- Of the prefixes of s the longest has the name, and the length n; none yet: no name and 0. -/
def Best (D : List (Wd × Wd)) (s name : Wd) (n : Nat) : Prop :=
  (n = 0 ∧ name = [] ∧ ∀ p m, (p, m) ∈ D → p ≠ [] → Lib.hasPrefix s p = false) ∨
  (0 < n ∧ n ≤ s.length ∧ (s.take n, name) ∈ D ∧ ∀ p m, (p, m) ∈ D → Lib.hasPrefix s p = true → p.length ≤ n)
theorem Best.nil (s : Wd) : Best [] s [] 0 := .inl ⟨rfl, rfl, fun p m h => by simp at h⟩
theorem Best.yes {D : List (Wd × Wd)} {s name p m : Wd} {n : Nat} (h : Best D s name n) (hn : n < p.length) (hp : Lib.hasPrefix s p = true) : Best (D ++ [(p, m)]) s m p.length := by
  have hq := pfx.1 hp
  refine .inr ⟨by omega, hq.1, by rw [hq.2]; simp, fun q k hqk hpf => ?_⟩
  rcases List.mem_append.1 hqk with hm | hm
  · rcases h with ⟨h0, -, h2⟩ | ⟨h0, h1, h2, h3⟩
    · by_cases he : q = []
      · subst he; simp
      · rw [h2 q k hm he] at hpf; cases hpf
    · have := h3 q k hm hpf; omega
  · have := List.mem_singleton.1 hm
    injection this with h1 h2
    rw [h1]; exact Nat.le_refl _
theorem Best.no {D : List (Wd × Wd)} {s name p m : Wd} {n : Nat} (h : Best D s name n) (hn : p.length ≤ n ∨ Lib.hasPrefix s p = false) : Best (D ++ [(p, m)]) s name n := by
  rcases h with ⟨rfl, h1, h2⟩ | ⟨h0, h1, h2, h3⟩
  · refine .inl ⟨rfl, h1, fun q k hqk hne => ?_⟩
    rcases List.mem_append.1 hqk with hm | hm
    · exact h2 q k hm hne
    · have := List.mem_singleton.1 hm
      injection this with h3 h4
      subst h3
      rcases hn with hn | hn
      · exact absurd (List.length_eq_zero_iff.1 (by omega)) hne
      · exact hn
  · refine .inr ⟨h0, h1, List.mem_append.2 (.inl h2), fun q k hqk hpf => ?_⟩
    rcases List.mem_append.1 hqk with hm | hm
    · exact h3 q k hm hpf
    · have := List.mem_singleton.1 hm
      injection this with h4 h5
      subst h4
      rcases hn with hn | hn
      · exact hn
      · rw [hn] at hpf; cases hpf
theorem lkN_down {f : Wd → Option Wd} {s : Wd} {n : Nat} : ∀ k, n ≤ k → (∀ m, n < m → m ≤ k → f (s.take m) = none) → lkN f s k = lkN f s n
  | 0, h, _ => by
    obtain rfl : n = 0 := by omega
    rfl
  | k + 1, h, hf => by
    rcases Nat.lt_or_ge n (k + 1) with hlt | hge
    · rw [lkN, hf (k + 1) hlt (Nat.le_refl _)]
      exact lkN_down k (by omega) fun m h1 h2 => hf m h1 (by omega)
    · obtain rfl : n = k + 1 := by omega
      rfl
/-- Every prefix has a byte. -/
def Full (D : List (Wd × Wd)) : Prop := ∀ p m, (p, m) ∈ D → p ≠ []
theorem take_pfx {s : Wd} {m : Nat} (h : m ≤ s.length) : Lib.hasPrefix s (s.take m) = true := by
  rw [pfx, List.length_take, Nat.min_eq_left h]
  exact ⟨h, rfl⟩
theorem Best.lk {D : List (Wd × Wd)} {s name : Wd} {n : Nat} (hO : Once D) (hF : Full D) (h : Best D s name n) : lk (val D) s = name := by
  have hnone : ∀ m, m ≤ s.length → (∀ q, (s.take m, q) ∉ D) → val D (s.take m) = none := fun m _ h => val_none.2 h
  unfold Zn.lk
  rcases h with ⟨rfl, rfl, h2⟩ | ⟨h0, h1, h2, h3⟩
  · rw [lkN_down (n := 0) s.length (Nat.zero_le _) fun m hm hms => hnone m hms fun q hq => ?_]
    · rfl
    · have := h2 _ q hq (hF _ _ hq)
      rw [take_pfx hms] at this; cases this
  · rw [lkN_down (n := n) s.length h1 fun m hm hms => hnone m hms fun q hq => ?_]
    · obtain ⟨k, rfl⟩ : ∃ k, n = k + 1 := ⟨n - 1, by omega⟩
      rw [lkN, val_of hO h2]
    · have := h3 _ q hq (take_pfx hms)
      rw [List.length_take, Nat.min_eq_left hms] at this
      omega
end Go.Proofs.Ytflonakoagjmhaa.Zn
