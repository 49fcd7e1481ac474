/- Plain mathematics of sets of instants: canonical lists, their uniqueness, their number of instants. -/
import Derived.WalkKit
namespace Go.Proofs.Ytcjceecdcjjnfaa

abbrev Pd := Int × Int
/-- A period is valid. -/
def vl (p : Pd) : Bool := decide (0 ≤ p.1 ∧ p.1 < p.2 ∧ p.2 ≤ 12622780800)
/-- A period contains an instant. -/
def ctn (p : Pd) (t : Int) : Bool := vl p && decide (p.1 ≤ t ∧ t < p.2)
/-- A list contains an instant. -/
def mem (l : List Pd) (t : Int) : Bool := l.any fun p => ctn p t
/-- A list is canonical. -/
def can (l : List Pd) : Prop := (∀ p ∈ l, vl p = true) ∧ l.Pairwise fun p q => p.2 < q.1

theorem vl_iff {p : Pd} : vl p = true ↔ 0 ≤ p.1 ∧ p.1 < p.2 ∧ p.2 ≤ 12622780800 := by unfold vl; exact decide_eq_true_iff
theorem ctn_iff {p : Pd} {t : Int} : ctn p t = true ↔ vl p = true ∧ p.1 ≤ t ∧ t < p.2 := by unfold ctn; simp [Bool.and_eq_true]
theorem mem_iff {l : List Pd} {t : Int} : mem l t = true ↔ ∃ p ∈ l, ctn p t = true := by unfold mem; exact List.any_eq_true
theorem mem_nil (t : Int) : mem [] t = false := rfl
theorem mem_cons (p : Pd) (l : List Pd) (t : Int) : mem (p :: l) t = (ctn p t || mem l t) := rfl
theorem mem_append (l m : List Pd) (t : Int) : mem (l ++ m) t = (mem l t || mem m t) := by unfold mem; exact List.any_append
theorem can_nil : can [] := ⟨fun _ h => (by cases h), List.Pairwise.nil⟩
theorem can_cons {p : Pd} {l : List Pd} : can (p :: l) ↔ vl p = true ∧ (∀ q ∈ l, p.2 < q.1) ∧ can l := by
  unfold can
  rw [List.pairwise_cons]
  constructor
  · rintro ⟨h1, h2, h3⟩
    exact ⟨h1 p (by simp), h2, fun q hq => h1 q (by simp [hq]), h3⟩
  · rintro ⟨h1, h2, h3, h4⟩
    refine ⟨fun q hq => ?_, h2, h4⟩
    rcases List.mem_cons.1 hq with rfl | hq
    · exact h1
    · exact h3 q hq
theorem can_snoc {l : List Pd} {p : Pd} (hl : can l) (hp : vl p = true) (h : ∀ q ∈ l, q.2 < p.1) : can (l ++ [p]) := by
  obtain ⟨h1, h2⟩ := hl
  refine ⟨fun q hq => ?_, ?_⟩
  · rcases List.mem_append.1 hq with hq | hq
    · exact h1 q hq
    · rw [List.mem_singleton.1 hq]; exact hp
  · rw [List.pairwise_append]
    exact ⟨h2, List.pairwise_singleton _ _, fun a ha b hb => by rw [List.mem_singleton.1 hb]; exact h a ha⟩
theorem can_init {l : List Pd} {p : Pd} (h : can (l ++ [p])) : can l ∧ vl p = true ∧ ∀ q ∈ l, q.2 < p.1 := by
  obtain ⟨h1, h2⟩ := h
  rw [List.pairwise_append] at h2
  exact ⟨⟨fun q hq => h1 q (by simp [hq]), h2.1⟩, h1 p (by simp), fun q hq => h2.2.2 q hq p (by simp)⟩
/-- No instant before the first limit. -/
theorem mem_before {l : List Pd} {c t : Int} (h : ∀ q ∈ l, c < q.1) (ht : t ≤ c) : mem l t = false := by
  cases e : mem l t
  · rfl
  · obtain ⟨q, hq, hc⟩ := mem_iff.1 e
    have := h q hq
    obtain ⟨_, h1, h2⟩ := ctn_iff.1 hc
    omega
/-- No instant from the last limit on. -/
theorem mem_after {l : List Pd} {c t : Int} (h : ∀ q ∈ l, q.2 ≤ c) (ht : c ≤ t) : mem l t = false := by
  cases e : mem l t
  · rfl
  · obtain ⟨q, hq, hc⟩ := mem_iff.1 e
    have := h q hq
    obtain ⟨_, h1, h2⟩ := ctn_iff.1 hc
    omega
/-- A set has one canonical list. -/
theorem can_uniq : ∀ {l m : List Pd}, can l → can m → (∀ t, mem l t = mem m t) → l = m := by
  intro l
  induction l with
  | nil =>
    intro m _ hm h
    match m, hm with
    | [], _ => rfl
    | q :: m, hm =>
      obtain ⟨a, b, c⟩ := can_cons.1 hm
      have := h q.1
      have hq := vl_iff.1 a
      rw [mem_nil, mem_cons, ctn_iff.2 ⟨a, by omega, by omega⟩] at this
      cases this
  | cons p l ih =>
    intro m hl hm h
    obtain ⟨a, b, c⟩ := can_cons.1 hl
    have hp := vl_iff.1 a
    match m, hm with
    | [], _ =>
      have := h p.1
      rw [mem_nil, mem_cons, ctn_iff.2 ⟨a, by omega, by omega⟩] at this
      cases this
    | q :: m, hm =>
      obtain ⟨a', b', c'⟩ := can_cons.1 hm
      have hq := vl_iff.1 a'
      have low : ∀ {p q : Pd} {l m : List Pd}, vl p = true → (∀ r ∈ l, p.2 < r.1) → vl q = true → (∀ r ∈ m, q.2 < r.1) → (∀ t, mem (p :: l) t = mem (q :: m) t) → q.1 ≤ p.1 := by
        intro p q l m hp hl hq hm h
        have hp' := vl_iff.1 hp
        have hq' := vl_iff.1 hq
        have := h p.1
        rw [mem_cons, ctn_iff.2 ⟨hp, by omega, by omega⟩, Bool.true_or] at this
        obtain ⟨r, hr, hc⟩ := mem_iff.1 this.symm
        obtain ⟨_, h1, h2⟩ := ctn_iff.1 hc
        rcases List.mem_cons.1 hr with rfl | hr
        · omega
        · have := hm r hr; omega
      have high : ∀ {p q : Pd} {l m : List Pd}, vl p = true → (∀ r ∈ l, p.2 < r.1) → vl q = true → (∀ r ∈ m, q.2 < r.1) → (∀ t, mem (p :: l) t = mem (q :: m) t) → p.1 = q.1 → q.2 ≤ p.2 := by
        intro p q l m hp hl hq hm h he
        have hp' := vl_iff.1 hp
        have hq' := vl_iff.1 hq
        rcases Int.lt_or_le p.2 q.2 with hlt | hle
        · exfalso
          have := h p.2
          rw [mem_cons, mem_cons, (ctn_iff (p := q)).2 ⟨hq, by omega, by omega⟩, Bool.true_or, mem_before hl (by omega), Bool.or_false] at this
          have := ctn_iff.1 this
          omega
        · exact hle
      have e1 := low a b a' b' h
      have e2 := low a' b' a b fun t => (h t).symm
      have e3 : p.1 = q.1 := by omega
      have e4 := high a b a' b' h e3
      have e5 := high a' b' a b (fun t => (h t).symm) e3.symm
      have e : p = q := Prod.ext e3 (by omega)
      subst e
      rw [ih c c' fun t => ?_]
      have ht := h t
      rw [mem_cons, mem_cons] at ht
      cases hc : ctn p t
      · rw [hc] at ht; simpa using ht
      · obtain ⟨_, h1, h2⟩ := ctn_iff.1 hc
        rw [mem_before b (by omega), mem_before b' (by omega)]

/-- The number of instants of a list's elements. -/
def len (l : List Pd) : Int := (l.map fun p => p.2 - p.1).sum
theorem len_nil : len [] = 0 := rfl
theorem len_cons (p : Pd) (l : List Pd) : len (p :: l) = p.2 - p.1 + len l := by simp [len]
theorem len_append (l m : List Pd) : len (l ++ m) = len l + len m := by simp [len, List.sum_append]
/-- How many of the first instants have a property. -/
def cnt (N : Nat) (f : Int → Bool) : Nat := (List.range N).countP fun (i : Nat) => f (i : Int)
theorem cnt_or {N : Nat} {f g : Int → Bool} (h : ∀ t, f t = true → g t = false) : cnt N (fun t => f t || g t) = cnt N f + cnt N g := by
  unfold cnt
  generalize List.range N = l
  induction l with
  | nil => rfl
  | cons x l ih =>
    simp only [List.countP_cons]
    have hx := h x
    simp only [] at ih
    rw [ih]
    cases e1 : f (x : Int) <;> cases e2 : g (x : Int) <;> simp [e1, e2] at hx ⊢ <;> omega
theorem cnt_congr {N : Nat} {f g : Int → Bool} (h : ∀ t, f t = g t) : cnt N f = cnt N g := by
  have : f = g := funext h
  rw [this]
theorem cnt_false (N : Nat) : cnt N (fun _ => false) = 0 := by
  unfold cnt; simp
theorem cnt_between (N a b : Nat) (h : a ≤ b) : cnt N (fun t => decide ((a : Int) ≤ t ∧ t < (b : Int))) = min N b - min N a := by
  unfold cnt
  induction N with
  | zero => simp
  | succ n ih =>
    rw [List.range_succ, List.countP_append, ih]
    simp only [List.countP_cons, List.countP_nil]
    by_cases h1 : a ≤ n
    · by_cases h2 : n < b
      · rw [if_pos (by simp; omega)]; omega
      · rw [if_neg (by simp; omega)]; omega
    · rw [if_neg (by simp; omega)]; omega
theorem len_cnt {N : Nat} (hN : (N : Int) = 12622780800) : ∀ {l : List Pd}, can l → len l = cnt N (mem l) := by
  intro l
  induction l with
  | nil => intro _; rw [len_nil, cnt_congr (g := fun _ => false) mem_nil, cnt_false]; rfl
  | cons p l ih =>
    intro h
    obtain ⟨a, b, c⟩ := can_cons.1 h
    have hp := vl_iff.1 a
    have e1 : cnt N (mem (p :: l)) = cnt N (fun t => ctn p t || mem l t) := cnt_congr fun t => mem_cons p l t
    rw [len_cons, ih c, e1, cnt_or (f := ctn p) (g := mem l) (fun t ht => mem_before b (by have := ctn_iff.1 ht; omega))]
    have e2 : cnt N (ctn p) = cnt N (fun t => decide (((p.1.toNat : Nat) : Int) ≤ t ∧ t < ((p.2.toNat : Nat) : Int))) := cnt_congr fun t => by
      unfold ctn
      rw [a, Bool.true_and, Int.toNat_of_nonneg (by omega), Int.toNat_of_nonneg (by omega)]
    rw [e2, cnt_between _ _ _ (by omega)]
    omega
theorem len_nonneg {l : List Pd} (h : ∀ p ∈ l, vl p = true) : 0 ≤ len l := by
  induction l with
  | nil => exact Int.le_refl 0
  | cons p l ih =>
    rw [len_cons]
    have := vl_iff.1 (h p (by simp))
    have := ih fun q hq => h q (by simp [hq])
    omega
/-- The length of canonical lists is bounded. -/
theorem len_le {l : List Pd} (h : can l) : 0 ≤ len l ∧ len l ≤ 12622780800 := by
  have e := len_cnt (N := 12622780800) (by decide) h
  refine ⟨len_nonneg h.1, ?_⟩
  rw [e]
  have : cnt 12622780800 (mem l) ≤ (List.range 12622780800).length := List.countP_le_length
  rw [List.length_range] at this
  omega
end Go.Proofs.Ytcjceecdcjjnfaa
