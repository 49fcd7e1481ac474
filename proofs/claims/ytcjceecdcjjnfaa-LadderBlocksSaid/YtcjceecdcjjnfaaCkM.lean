/- What the checker says of ladders and expressions. -/
namespace Go.Proofs.Ytcjceecdcjjnfaa.Ck

/-- A step: upto, quantum, price. -/
structure Sp where
  up : Int
  qu : Int
  pr : Int
def sp0 : Sp := ⟨0, 0, 0⟩
def inB (n a b : Int) : Bool := decide (a ≤ n) && decide (n ≤ b)
def spV (v0 v1 v2 l z o : Bool) : Int := if v0 = false ∨ v1 = false ∨ v2 = false then 6 else if l ≠ z then 8 else if l = false ∧ o = true then 9 else 0
/-- The error of a step behind one up to b. -/
def spE (b : Int) (last : Bool) (s : Sp) : Int := spV (inB s.up 0 1099511627776) (inB s.qu 1 1099511627776) (inB s.pr 0 1125899906842624) last (decide (s.up = 0)) (decide (s.up ≤ b))
def prv (l : List Sp) (k : Nat) : Int := if k = 0 then 0 else (l.getD (k - 1) sp0).up
def spAt (l : List Sp) (k : Nat) : Int := spE (prv l k) (decide (k + 1 = l.length)) (l.getD k sp0)
/-- The first error of m parts from the one at k on. -/
def fstN (f : Nat → Int) : Nat → Nat → Int
  | _, 0 => 0
  | k, m + 1 => if f k = 0 then fstN f (k + 1) m else f k
def stepsE (l : List Sp) : Int := if l.length = 0 then 8 else if 64 < l.length then 5 else fstN (spAt l) 0 l.length
theorem fstN_next {f : Nat → Int} {k n : Nat} (hk : k < n) : fstN f k (n - k) = if f k = 0 then fstN f (k + 1) (n - (k + 1)) else f k := by
  obtain ⟨m, rfl⟩ : ∃ m, n = k + 1 + m := ⟨n - (k + 1), by omega⟩
  rw [show k + 1 + m - k = m + 1 by omega, show k + 1 + m - (k + 1) = m by omega]; rfl
theorem fstN_end {f : Nat → Int} {k : Nat} : fstN f k (k - k) = 0 := by rw [Nat.sub_self]; rfl
theorem fstN_congr {f g : Nat → Int} : ∀ {m k : Nat}, (∀ i, k ≤ i → i < k + m → f i = g i) → fstN f k m = fstN g k m
  | 0, _, _ => rfl
  | m + 1, k, h => by
    unfold fstN
    rw [h k (Nat.le_refl _) (by omega), fstN_congr (m := m) (k := k + 1) (fun i h1 h2 => h i (by omega) (by omega))]
theorem fstN_zero {f : Nat → Int} : ∀ {m k : Nat}, fstN f k m = 0 ↔ ∀ i, k ≤ i → i < k + m → f i = 0
  | 0, k => ⟨fun _ i h1 h2 => by omega, fun _ => rfl⟩
  | m + 1, k => by
    unfold fstN
    constructor
    · intro h i h1 h2
      by_cases h0 : f k = 0
      · rw [if_pos h0] at h
        by_cases hi : i = k
        · rw [hi]; exact h0
        · exact fstN_zero.1 h i (by omega) (by omega)
      · rw [if_neg h0] at h; exact absurd h h0
    · intro h
      rw [if_pos (h k (Nat.le_refl _) (by omega))]
      exact fstN_zero.2 (fun i h1 h2 => h i (by omega) (by omega))

/-- An expression. -/
inductive Ex where
  | mk (op num : Int) (tx : ByteArray) (args : List Ex)
def arity (op : Int) : Int := if 1 ≤ op ∧ op ≤ 3 then 0 else if op = 4 then 1 else if 4 < op ∧ op < 16 then 2 else -1
def nums : List ByteArray := [⟨#[107, 105, 110, 100]⟩, ⟨#[117, 110, 105, 116, 115]⟩, ⟨#[119, 101, 101, 107, 100, 97, 121]⟩, ⟨#[109, 105, 110, 117, 116, 101]⟩, ⟨#[116, 111, 116, 97, 108]⟩, ⟨#[115, 112, 101, 110, 116]⟩]
def txts : List ByteArray := [⟨#[122, 111, 110, 101]⟩, ⟨#[98, 97, 110, 100]⟩]
def isIn (l : List ByteArray) (s : ByteArray) : Bool := l.any fun x => x.toList == s.toList
/-- The sort of an attribute. -/
def attr (s : ByteArray) : Int := if isIn nums s = true then 1 else if isIn txts s = true then 2 else if (s.toList == [102, 97, 109, 105, 108, 121]) = true then 3 else 0
def ownE (op num : Int) (tx : ByteArray) (n : Nat) : Int :=
  if (n : Int) ≠ arity op then 7
  else if op = 1 ∧ inB num 0 1099511627776 = false then 6
  else if op = 2 ∧ 200 < tx.size then 5
  else if op = 3 ∧ attr tx = 0 then 11
  else 0
/-- The sort of an expression whose operands have these; 0 if they are not the required ones. -/
def resE (op : Int) (tx : ByteArray) (l : List Int) : Int :=
  if op = 1 then 1 else if op = 2 then 2 else if op = 3 then attr tx
  else if op = 4 then (if l.getD 0 0 = 3 then 3 else 0)
  else if l.getD 0 0 ≠ l.getD 1 0 then 0
  else if op = 5 ∨ op = 6 then (if l.getD 0 0 = 3 then 3 else 0)
  else if op = 7 ∨ op = 8 then (if l.getD 0 0 = 3 then 0 else 3)
  else if op = 9 ∨ op = 10 then (if l.getD 0 0 = 1 then 3 else 0)
  else if l.getD 0 0 = 1 then 1 else 0
/-- What is required of the operands, and the sort. -/
def sigE (op : Int) (tx : ByteArray) (l : List Int) : Int × Int :=
  if op = 1 then (0, 1) else if op = 2 then (0, 2) else if op = 3 then (0, attr tx)
  else if op = 4 ∨ op = 5 ∨ op = 6 then (3, 3)
  else if op = 7 ∨ op = 8 then (if l.getD 0 0 = 2 then (2, 3) else (1, 3))
  else if op = 9 ∨ op = 10 then (1, 3) else (1, 1)
def finE (op : Int) (tx : ByteArray) (l : List Int) : Int × Int := if resE op tx l = 0 then (0, 7) else (resE op tx l, 0)
def finS (op : Int) (tx : ByteArray) (l : List Int) : Int × Int := if (l.any fun s => decide (s ≠ (sigE op tx l).1)) = true then (0, 7) else ((sigE op tx l).2, 0)
def isSort (s : Int) : Prop := s = 1 ∨ s = 2 ∨ s = 3
theorem attr_sort {s : ByteArray} (h : attr s ≠ 0) : isSort (attr s) := by
  unfold attr at h ⊢; unfold isSort
  split
  · exact .inl rfl
  · split
    · exact .inr (.inl rfl)
    · split
      · exact .inr (.inr rfl)
      · rename_i h1 h2 h3; rw [if_neg h1, if_neg h2, if_neg h3] at h; exact absurd rfl h
theorem own_len {op num : Int} {tx : ByteArray} {n : Nat} (h : ownE op num tx n = 0) : (n : Int) = arity op := by
  unfold ownE at h
  split at h
  · exact absurd h (by decide)
  · rename_i h1; exact Decidable.not_not.1 h1
theorem own_attr {num : Int} {tx : ByteArray} {n : Nat} (h : ownE 3 num tx n = 0) : attr tx ≠ 0 := by
  intro h0
  unfold ownE at h
  split at h
  · exact absurd h (by decide)
  · rw [if_neg (fun h => absurd h.1 (by decide)), if_neg (fun h => absurd h.1 (by decide)), if_pos ⟨rfl, h0⟩] at h; exact absurd h (by decide)
theorem len_cases {α : Type} {l : List α} {op : Int} (h : (l.length : Int) = arity op) : (1 ≤ op ∧ op ≤ 3 ∧ l = []) ∨ (op = 4 ∧ ∃ a, l = [a]) ∨ (4 < op ∧ op < 16 ∧ ∃ a b, l = [a, b]) := by
  unfold arity at h
  split at h
  · rename_i h1
    exact .inl ⟨h1.1, h1.2, List.eq_nil_of_length_eq_zero (by omega)⟩
  · split at h
    · rename_i h1
      have : l.length = 1 := by omega
      match l, this with
      | [a], _ => exact .inr (.inl ⟨h1, a, rfl⟩)
    · split at h
      · rename_i h1
        have : l.length = 2 := by omega
        match l, this with
        | [a, b], _ => exact .inr (.inr ⟨h1.1, h1.2, a, b, rfl⟩)
      · omega
theorem any_nil {p : Int → Bool} : ([] : List Int).any p = false := rfl
/-- Both sides say the same of the operands. -/
theorem fin_same {op num : Int} {tx : ByteArray} {l : List Int} {n : Nat} (h : ownE op num tx n = 0) (hn : l.length = n) (hs : ∀ s ∈ l, isSort s) : finS op tx l = finE op tx l := by
  rcases len_cases (l := l) (by rw [hn]; exact own_len h) with ⟨h1, h3, rfl⟩ | ⟨rfl, a, rfl⟩ | ⟨h1, h2, a, b, rfl⟩
  · have : op = 1 ∨ op = 2 ∨ op = 3 := by omega
    rcases this with rfl | rfl | rfl
    · rfl
    · rfl
    · have e1 : finS 3 tx [] = (attr tx, 0) := rfl
      have e2 : finE 3 tx [] = if attr tx = 0 then (0, 7) else (attr tx, 0) := rfl
      rw [e1, e2, if_neg (own_attr h)]
  · rcases hs a (by simp) with rfl | rfl | rfl <;> rfl
  · have ha := hs a (by simp); have hb := hs b (by simp)
    have hop : op = 5 ∨ op = 6 ∨ op = 7 ∨ op = 8 ∨ op = 9 ∨ op = 10 ∨ op = 11 ∨ op = 12 ∨ op = 13 ∨ op = 14 ∨ op = 15 := by omega
    rcases hop with rfl | rfl | rfl | rfl | rfl | rfl | rfl | rfl | rfl | rfl | rfl <;> rcases ha with rfl | rfl | rfl <;> rcases hb with rfl | rfl | rfl <;> rfl
theorem fin_sort {op num : Int} {tx : ByteArray} {l : List Int} {n : Nat} (h : ownE op num tx n = 0) (hn : l.length = n) (hs : ∀ s ∈ l, isSort s) (h0 : (finE op tx l).2 = 0) : isSort (finE op tx l).1 := by
  unfold finE at h0 ⊢
  split at h0
  · exact absurd h0 (by decide)
  · rename_i h1
    rw [if_neg h1]
    show isSort (resE op tx l)
    unfold resE at h1 ⊢
    unfold isSort
    (repeat' split) <;> first | exact .inl rfl | exact .inr (.inl rfl) | exact .inr (.inr rfl) | skip
    all_goals first | (subst_vars; exact attr_sort (own_attr h)) | skip
    all_goals (exfalso; simp_all)
/-- The sorts of the operands, up to the first error. -/
def sorts (f : Ex → Int × Int) : List Ex → List Int × Int
  | [] => ([], 0)
  | e :: t => if (f e).2 = 0 then ((f e).1 :: (sorts f t).1, (sorts f t).2) else ([], (f e).2)
/-- The sort of an expression with so many levels left, and the error. -/
def sortX : Nat → Ex → Int × Int
  | 0, _ => (0, 24)
  | k + 1, .mk op num tx args => if ownE op num tx args.length = 0 then (if (sorts (sortX k) args).2 = 0 then finE op tx (sorts (sortX k) args).1 else (0, (sorts (sortX k) args).2)) else (0, ownE op num tx args.length)
theorem sorts_len {f : Ex → Int × Int} : ∀ {l : List Ex}, (sorts f l).2 = 0 → (sorts f l).1.length = l.length
  | [], _ => rfl
  | e :: t, h => by
    unfold sorts at h ⊢
    by_cases h0 : (f e).2 = 0
    · rw [if_pos h0] at h ⊢
      simp only [List.length_cons]
      rw [sorts_len h]
    · rw [if_neg h0] at h; exact absurd h h0
theorem sorts_mem {f : Ex → Int × Int} {P : Int → Prop} : ∀ {l : List Ex}, (∀ e ∈ l, (f e).2 = 0 → P (f e).1) → ∀ s ∈ (sorts f l).1, P s
  | [], _, s, hs => by cases hs
  | e :: t, h, s, hs => by
    unfold sorts at hs
    by_cases h0 : (f e).2 = 0
    · rw [if_pos h0] at hs
      rcases List.mem_cons.1 hs with rfl | hs
      · exact h e (by simp) h0
      · exact sorts_mem (fun e he => h e (List.mem_cons_of_mem _ he)) s hs
    · rw [if_neg h0] at hs; cases hs
theorem sortX_sort : ∀ {k : Nat} {e : Ex}, (sortX k e).2 = 0 → isSort (sortX k e).1
  | 0, _, h => absurd h (by unfold sortX; decide)
  | k + 1, .mk op num tx args, h => by
    unfold sortX at h ⊢
    by_cases h0 : ownE op num tx args.length = 0
    · rw [if_pos h0] at h ⊢
      by_cases h1 : (sorts (sortX k) args).2 = 0
      · rw [if_pos h1] at h ⊢
        exact fin_sort h0 (sorts_len h1) (sorts_mem (fun e _ he => sortX_sort he)) h
      · rw [if_neg h1] at h; exact absurd h h1
    · rw [if_neg h0] at h; exact absurd h h0
theorem sortX_own {k : Nat} {op num : Int} {tx : ByteArray} {args : List Ex} (h : ownE op num tx args.length ≠ 0) : sortX (k + 1) (.mk op num tx args) = (0, ownE op num tx args.length) := by
  unfold sortX; rw [if_neg h]
theorem sortX_args {k : Nat} {op num : Int} {tx : ByteArray} {args : List Ex} (h : ownE op num tx args.length = 0) (h2 : (sorts (sortX k) args).2 ≠ 0) : sortX (k + 1) (.mk op num tx args) = (0, (sorts (sortX k) args).2) := by
  rw [sortX, if_pos h, if_neg h2]
theorem sortX_fin {k : Nat} {op num : Int} {tx : ByteArray} {args : List Ex} (h : ownE op num tx args.length = 0) (h2 : (sorts (sortX k) args).2 = 0) : sortX (k + 1) (.mk op num tx args) = finE op tx (sorts (sortX k) args).1 := by
  rw [sortX, if_pos h, if_pos h2]
/-- How many nodes an expression has, and which ones are small. -/
def cnt : Ex → Nat
  | .mk _ _ _ args => 1 + cnts args
where cnts : List Ex → Nat
  | [] => 0
  | e :: t => cnt e + cnts t
def sml : Ex → Bool
  | .mk op num tx args => smls args && decide (tx.size ≤ 300) && decide (args.length ≤ 8) && decide (cnt (.mk op num tx args) ≤ 120)
where smls : List Ex → Bool
  | [] => true
  | e :: t => sml e && smls t
end Go.Proofs.Ytcjceecdcjjnfaa.Ck
