/- Plain facts: lists of zones as maps of prefixes, their minimal forms, and what decides whether two of them are equal. -/
namespace Go.Proofs.Ytcjceecdcjjnfaa.Zn

abbrev Wd := List UInt8
/-- A zone. -/
structure Zo where
  nm : Wd
  ps : List Wd
/-- The prefixes with their zones' names. -/
def pairs (l : List Zo) : List (Wd × Wd) := l.flatMap fun z => z.ps.map fun p => (p, z.nm)
theorem pairs_nil : pairs [] = [] := rfl
theorem pairs_cons (z : Zo) (l : List Zo) : pairs (z :: l) = (z.ps.map fun p => (p, z.nm)) ++ pairs l := rfl
theorem pairs_app (a b : List Zo) : pairs (a ++ b) = pairs a ++ pairs b := by simp [pairs]
theorem mem_pairs {l : List Zo} {p n : Wd} : (p, n) ∈ pairs l ↔ ∃ z ∈ l, z.nm = n ∧ p ∈ z.ps := by
  unfold pairs
  simp only [List.mem_flatMap, List.mem_map, Prod.mk.injEq]
  constructor
  · rintro ⟨z, hz, q, hq, rfl, rfl⟩; exact ⟨z, hz, rfl, hq⟩
  · rintro ⟨z, hz, rfl, hq⟩; exact ⟨z, hz, p, hq, rfl, rfl⟩
/-- What a map says of a text. -/
def val (L : List (Wd × Wd)) (s : Wd) : Option Wd := (L.find? fun e => e.1 == s).map (·.2)
theorem val_nil (s : Wd) : val [] s = none := rfl
theorem val_none {L : List (Wd × Wd)} {s : Wd} : val L s = none ↔ ∀ n, (s, n) ∉ L := by
  unfold val
  rw [Option.map_eq_none_iff, List.find?_eq_none]
  constructor
  · intro h n hn; have := h _ hn; simp at this
  · intro h e he hb
    obtain ⟨p, n⟩ := e
    have : p = s := by simpa using hb
    subst this; exact h n he
theorem val_mem {L : List (Wd × Wd)} {s n : Wd} (h : val L s = some n) : (s, n) ∈ L := by
  unfold val at h
  cases hf : L.find? (fun e => e.1 == s) with
  | none => rw [hf] at h; cases h
  | some e =>
    rw [hf] at h
    have h1 := List.mem_of_find?_eq_some hf
    have h2 := List.find?_some hf
    obtain ⟨p, m⟩ := e
    have h3 : p = s := by simpa using h2
    have h4 : m = n := by simpa using h
    subst h3; subst h4; exact h1
/-- No text stands twice. -/
def Once (L : List (Wd × Wd)) : Prop := ∀ p a b, (p, a) ∈ L → (p, b) ∈ L → a = b
theorem val_of {L : List (Wd × Wd)} (ho : Once L) {s n : Wd} (h : (s, n) ∈ L) : val L s = some n := by
  cases hv : val L s with
  | none => exact absurd h (val_none.1 hv n)
  | some m => rw [ho s m n (val_mem hv) h]
theorem val_iff {L : List (Wd × Wd)} (ho : Once L) {s n : Wd} : val L s = some n ↔ (s, n) ∈ L := ⟨val_mem, val_of ho⟩
/-- The zone of the longest of the first k beginnings; nothing if there is none. -/
def lkN (f : Wd → Option Wd) (s : Wd) : Nat → Wd
  | 0 => []
  | k + 1 => match f (s.take (k + 1)) with
    | some z => z
    | none => lkN f s k
def lk (f : Wd → Option Wd) (s : Wd) : Wd := lkN f s s.length
theorem lkN_take {f : Wd → Option Wd} {s t : Wd} : ∀ k, s.take k = t.take k → lkN f s k = lkN f t k
  | 0, _ => rfl
  | k + 1, h => by
    have h2 : s.take k = t.take k := by
      have := congrArg (List.take k) h
      rwa [List.take_take, List.take_take, Nat.min_eq_left (Nat.le_succ k)] at this
    rw [lkN, lkN, h, lkN_take k h2]
theorem lk_nil (f : Wd → Option Wd) : lk f [] = [] := rfl
theorem lk_snoc (f : Wd → Option Wd) (s : Wd) (c : UInt8) : lk f (s ++ [c]) = match f (s ++ [c]) with | some z => z | none => lk f s := by
  unfold lk
  rw [List.length_append, List.length_singleton, lkN]
  have h1 : (s ++ [c]).take (s.length + 1) = s ++ [c] := List.take_of_length_le (by simp)
  have h2 : lkN f (s ++ [c]) s.length = lkN f s s.length := lkN_take _ (by simp)
  rw [h1, h2]
theorem lk_take (f : Wd → Option Wd) (s : Wd) (k : Nat) (h : k ≤ s.length) : lkN f s k = lk f (s.take k) := by
  unfold lk
  rw [List.length_take, Nat.min_eq_left h]
  exact lkN_take k (by rw [List.take_take, Nat.min_self])
theorem snoc_ind {P : Wd → Prop} (h0 : P []) (h1 : ∀ s c, P s → P (s ++ [c])) : ∀ s, P s := by
  intro s
  have : ∀ n, ∀ s : Wd, s.length = n → P s := by
    intro n
    induction n with
    | zero => intro s hs; rw [List.length_eq_zero_iff.1 hs]; exact h0
    | succ n ih =>
      intro s hs
      rcases List.eq_nil_or_concat s with rfl | ⟨t, c, rfl⟩
      · cases hs
      · rw [List.concat_eq_append] at hs ⊢
        exact h1 t c (ih t (by simpa using hs))
  exact this _ s rfl
/-- Maps that agree on the texts of both agree everywhere. -/
theorem lk_agree {f g : Wd → Option Wd} (h : ∀ s, f s ≠ none ∨ g s ≠ none → lk f s = lk g s) : ∀ s, lk f s = lk g s := by
  refine snoc_ind rfl fun s c ih => ?_
  by_cases hs : f (s ++ [c]) ≠ none ∨ g (s ++ [c]) ≠ none
  · exact h _ hs
  · have h1 : f (s ++ [c]) = none := Classical.byContradiction fun e => hs (.inl e)
    have h2 : g (s ++ [c]) = none := Classical.byContradiction fun e => hs (.inr e)
    rw [lk_snoc, lk_snoc, h1, h2]; exact ih
/-- Whether a prefix makes a difference. -/
def keepB (f : Wd → Option Wd) (p n : Wd) : Bool := lk f p.dropLast != n
/-- The map without what makes no difference. -/
def minF (f : Wd → Option Wd) (s : Wd) : Option Wd := match f s with
  | some n => if keepB f s n = true then some n else none
  | none => none
theorem min_lk (f : Wd → Option Wd) : ∀ s, lk (minF f) s = lk f s := by
  refine snoc_ind rfl fun s c ih => ?_
  rw [lk_snoc, lk_snoc]
  unfold minF
  cases hf : f (s ++ [c]) with
  | none => exact ih
  | some n =>
    by_cases hk : keepB f (s ++ [c]) n = true
    · simp only [hk, if_true]
    · simp only [hk, if_false]
      have : lk f s = n := by
        unfold keepB at hk
        simpa using hk
      simp only [Bool.false_eq_true, if_false]
      rw [← this]; exact ih
/-- The minimal map is what the zones of numbers say. -/
theorem min_iff {f : Wd → Option Wd} (h0 : f [] = none) {s n : Wd} (hn : ∀ s n, f s = some n → n ≠ []) : minF f s = some n ↔ lk f s = n ∧ lk f s ≠ lk f s.dropLast := by
  rcases List.eq_nil_or_concat s with rfl | ⟨t, c, rfl⟩
  · unfold minF; rw [h0]; simp
  · rw [List.concat_eq_append, List.dropLast_concat, lk_snoc]
    unfold minF
    cases hf : f (t ++ [c]) with
    | none => simp
    | some m =>
      unfold keepB
      rw [List.dropLast_concat]
      by_cases hk : lk f t = m
      · simp [hk]
      · have h2 : ¬ m = lk f t := fun e => hk e.symm
        simp [hk, h2]
theorem min_ext {f g : Wd → Option Wd} (f0 : f [] = none) (g0 : g [] = none) (fn : ∀ s n, f s = some n → n ≠ []) (gn : ∀ s n, g s = some n → n ≠ []) : (∀ s, minF f s = minF g s) ↔ ∀ s, lk f s = lk g s := by
  constructor
  · intro h s
    rw [← min_lk f, ← min_lk g]
    have : minF f = minF g := funext h
    rw [this]
  · intro h s
    apply Option.ext
    intro n
    rw [min_iff f0 fn, min_iff g0 gn, h s, h s.dropLast]
theorem min_min {f : Wd → Option Wd} (h0 : f [] = none) (hn : ∀ s n, f s = some n → n ≠ []) (s : Wd) : minF (minF f) s = minF f s := by
  have h1 : minF f [] = none := by unfold minF; rw [h0]
  have h2 : ∀ s n, minF f s = some n → n ≠ [] := by
    intro s n h
    unfold minF at h
    cases hf : f s with
    | none => rw [hf] at h; cases h
    | some m =>
      rw [hf] at h
      simp only at h
      split at h
      · cases h; exact hn s _ hf
      · cases h
  exact (min_ext h1 h0 h2 hn).2 (min_lk f) s
end Go.Proofs.Ytcjceecdcjjnfaa.Zn
