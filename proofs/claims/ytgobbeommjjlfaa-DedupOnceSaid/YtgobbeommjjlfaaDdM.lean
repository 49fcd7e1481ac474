/- Plain mathematics of canonical lists of ranges: adding an identity. -/
import Derived.WalkKit
namespace Go.Proofs.Ytgobbeommjjlfaa

abbrev Rg := Int × Int × Int
def rg0 : Rg := (0, 0, 0)
/-- A source and a serial number are an identity. -/
def idB (s x : Int) : Bool := decide (1 ≤ s) && decide (s ≤ 99) && decide (1 ≤ x) && decide (x ≤ 999999999)
theorem idB_iff {s x : Int} : idB s x = true ↔ 1 ≤ s ∧ s ≤ 99 ∧ 1 ≤ x ∧ x ≤ 999999999 := by
  unfold idB; simp only [Bool.and_eq_true, decide_eq_true_eq]; omega
def okR (r : Rg) : Bool := idB r.1 r.2.1 && idB r.1 r.2.2 && decide (r.2.1 ≤ r.2.2)
theorem okR_iff {r : Rg} : okR r = true ↔ idB r.1 r.2.1 = true ∧ idB r.1 r.2.2 = true ∧ r.2.1 ≤ r.2.2 := by
  unfold okR; simp only [Bool.and_eq_true, decide_eq_true_eq]; exact and_assoc
def apt (a b : Rg) : Bool := decide (a.1 < b.1) || (decide (a.1 = b.1) && decide (a.2.2 + 1 < b.2.1))
theorem apt_iff {a b : Rg} : apt a b = true ↔ a.1 < b.1 ∨ (a.1 = b.1 ∧ a.2.2 + 1 < b.2.1) := by
  unfold apt; simp only [Bool.or_eq_true, Bool.and_eq_true, decide_eq_true_eq]
/-- A list of ranges is canonical. -/
def Can (l : List Rg) : Prop := (∀ r ∈ l, okR r = true) ∧ l.Pairwise fun a b => apt a b = true
theorem can_nil : Can [] := ⟨fun _ h => (by cases h), List.Pairwise.nil⟩
theorem can_cons {r : Rg} {l : List Rg} : Can (r :: l) ↔ okR r = true ∧ (∀ q ∈ l, apt r q = true) ∧ Can l := by
  unfold Can
  rw [List.pairwise_cons]
  constructor
  · rintro ⟨h1, h2, h3⟩
    exact ⟨h1 r (by simp), h2, fun q hq => h1 q (by simp [hq]), h3⟩
  · rintro ⟨h1, h2, h3, h4⟩
    refine ⟨fun q hq => ?_, h2, h4⟩
    rcases List.mem_cons.1 hq with rfl | hq
    · exact h1
    · exact h3 q hq
/-- What is tested at place k. -/
def ckD (l : List Rg) (k : Nat) : Bool := okR (l.getD k rg0) && (decide (k = 0) || apt (l.getD (k - 1) rg0) (l.getD k rg0))
/-- Whether a list is canonical. -/
def canB : List Rg → Bool
  | [] => true
  | [r] => okR r
  | r :: q :: l => okR r && apt r q && canB (q :: l)
theorem apt_trans {a b c : Rg} (hb : okR b = true) (h1 : apt a b = true) (h2 : apt b c = true) : apt a c = true := by
  obtain ⟨_, _, h⟩ := okR_iff.1 hb
  rw [apt_iff] at *
  omega
theorem canB_iff : ∀ {l : List Rg}, canB l = true ↔ Can l
  | [] => ⟨fun _ => can_nil, fun _ => rfl⟩
  | [r] => by rw [can_cons]; exact ⟨fun h => ⟨h, fun q h => (by cases h), can_nil⟩, fun h => h.1⟩
  | r :: q :: l => by
    have ih := canB_iff (l := q :: l)
    unfold canB
    rw [can_cons (l := q :: l), Bool.and_eq_true, Bool.and_eq_true, ih]
    constructor
    · rintro ⟨⟨h1, h2⟩, h3⟩
      refine ⟨h1, fun z hz => ?_, h3⟩
      rcases List.mem_cons.1 hz with rfl | hz
      · exact h2
      · obtain ⟨h4, h5, _⟩ := can_cons.1 h3
        exact apt_trans h4 h2 (h5 z hz)
    · rintro ⟨h1, h2, h3⟩
      exact ⟨⟨h1, h2 q (by simp)⟩, h3⟩
theorem canB_all : ∀ {l : List Rg}, canB l = true ↔ ∀ k, k < l.length → ckD l k = true
  | [] => ⟨fun _ k hk => absurd hk (Nat.not_lt_zero k), fun _ => rfl⟩
  | [r] => by
    constructor
    · intro h k hk
      obtain rfl : k = 0 := by simp at hk; omega
      simpa [ckD, canB] using h
    · intro h
      simpa [ckD, canB] using h 0 (by simp)
  | r :: q :: l => by
    have ih := canB_all (l := q :: l)
    unfold canB
    rw [Bool.and_eq_true, Bool.and_eq_true, ih]
    constructor
    · rintro ⟨⟨h1, h2⟩, h3⟩ k hk
      cases k with
      | zero => simpa [ckD] using h1
      | succ k =>
        have h4 := h3 k (by simpa using hk)
        cases k with
        | zero => simp [ckD] at h4 ⊢; exact ⟨h4, h2⟩
        | succ k => simp [ckD] at h4 ⊢; exact h4
    · intro h
      have h0 := h 0 (by simp)
      have h1 := h 1 (by simp)
      simp [ckD] at h0 h1
      refine ⟨⟨h0, h1.2⟩, fun k hk => ?_⟩
      have h2 := h (k + 1) (by simpa using hk)
      cases k with
      | zero => simp [ckD]; exact h1.1
      | succ k => simp [ckD] at h2 ⊢; exact h2
/-- An identity is in a range. -/
def inR (s x : Int) (r : Rg) : Bool := decide (r.1 = s) && decide (r.2.1 ≤ x) && decide (x ≤ r.2.2)
theorem inR_iff {s x : Int} {r : Rg} : inR s x r = true ↔ r.1 = s ∧ r.2.1 ≤ x ∧ x ≤ r.2.2 := by
  unfold inR; simp only [Bool.and_eq_true, decide_eq_true_eq]; exact and_assoc
/-- An identity is seen. -/
def hasL (l : List Rg) (s x : Int) : Bool := l.any (inR s x)
theorem has_cons (r : Rg) (l : List Rg) (s x : Int) : hasL (r :: l) s x = (inR s x r || hasL l s x) := rfl
theorem has_id {l : List Rg} (hl : Can l) {s x : Int} (h : hasL l s x = true) : idB s x = true := by
  obtain ⟨r, hr, h⟩ := List.any_eq_true.1 h
  obtain ⟨h1, h2, h3⟩ := inR_iff.1 h
  obtain ⟨h4, h5, _⟩ := okR_iff.1 (hl.1 r hr)
  rw [idB_iff] at *
  omega
/-- A range stands before an identity. -/
def bef (s x : Int) (r : Rg) : Bool := decide (r.1 < s) || (decide (r.1 = s) && decide (r.2.2 < x))
theorem bef_iff {s x : Int} {r : Rg} : bef s x r = true ↔ r.1 < s ∨ (r.1 = s ∧ r.2.2 < x) := by
  unfold bef; simp only [Bool.or_eq_true, Bool.and_eq_true, decide_eq_true_eq]
theorem bef_not {s x : Int} {r : Rg} : bef s x r = false ↔ s < r.1 ∨ (r.1 = s ∧ x ≤ r.2.2) := by
  rw [Bool.eq_false_iff]
  show ¬ _ ↔ _
  rw [bef_iff]; omega
theorem bef_apt {s x : Int} {a b : Rg} (hb : okR b = true) (h : apt a b = true) (hf : bef s x a = false) : bef s x b = false := by
  obtain ⟨_, _, h0⟩ := okR_iff.1 hb
  rw [bef_not] at *
  rw [apt_iff] at h
  omega
/-- The place of an identity. -/
def plc (s x : Int) : List Rg → Nat
  | [] => 0
  | r :: l => if bef s x r then plc s x l + 1 else 0
theorem plc_cons (s x : Int) (r : Rg) (l : List Rg) : plc s x (r :: l) = if bef s x r then plc s x l + 1 else 0 := rfl
theorem plc_le (s x : Int) : ∀ l : List Rg, plc s x l ≤ l.length
  | [] => Nat.le_refl _
  | r :: l => by
    unfold plc
    split
    · have := plc_le s x l; simp; omega
    · simp
theorem plc_get {s x : Int} : ∀ {l : List Rg}, Can l → ∀ {k}, k < l.length → bef s x (l.getD k rg0) = decide (k < plc s x l)
  | [], _, k, hk => absurd hk (Nat.not_lt_zero k)
  | r :: l, hl, k, hk => by
    obtain ⟨h1, h2, h3⟩ := can_cons.1 hl
    unfold plc
    by_cases hb : bef s x r = true
    · rw [if_pos hb]
      cases k with
      | zero => simpa using hb
      | succ k =>
        have := plc_get h3 (k := k) (s := s) (x := x) (by simpa using hk)
        simp only [List.getD_cons_succ, this]
        rw [decide_eq_decide]; omega
    · rw [if_neg hb]
      have hb' : bef s x r = false := by simpa using hb
      cases k with
      | zero => simpa using hb'
      | succ k =>
        have hk' : k < l.length := by simpa using hk
        have hm : l.getD k rg0 ∈ l := by rw [List.getD_eq_getElem?_getD, List.getElem?_eq_getElem hk']; exact List.getElem_mem hk'
        simp only [List.getD_cons_succ]
        rw [bef_apt (h3.1 _ hm) (h2 _ hm) hb']; simp
theorem has_at {s x : Int} : ∀ {l : List Rg}, Can l → hasL l s x = (decide (plc s x l < l.length) && decide ((l.getD (plc s x l) rg0).1 = s) && decide ((l.getD (plc s x l) rg0).2.1 ≤ x))
  | [], _ => rfl
  | r :: l, hl => by
    obtain ⟨h1, h2, h3⟩ := can_cons.1 hl
    rw [has_cons, has_at h3, plc_cons]
    by_cases hb : bef s x r = true
    · rw [if_pos hb]
      have hi : inR s x r = false := by
        rw [Bool.eq_false_iff]; intro h; rw [inR_iff] at h; rw [bef_iff] at hb; omega
      rw [hi]; simp
    · rw [if_neg hb]
      have hb' : bef s x r = false := by simpa using hb
      rw [← has_at h3]
      have hn : hasL l s x = true → inR s x r = true := by
        intro h
        obtain ⟨q, hq, h⟩ := List.any_eq_true.1 h
        have ha := h2 q hq
        obtain ⟨_, _, h0⟩ := okR_iff.1 (h3.1 q hq)
        rw [apt_iff] at ha; rw [inR_iff] at h ⊢; rw [bef_not] at hb'
        omega
      rw [Bool.eq_iff_iff]
      simp only [Bool.or_eq_true, Bool.and_eq_true, decide_eq_true_eq, List.length_cons, List.getD_cons_zero]
      constructor
      · intro h
        have h := h.elim id hn
        rw [inR_iff] at h
        exact ⟨⟨by omega, h.1⟩, h.2.1⟩
      · rintro ⟨⟨_, h4⟩, h5⟩
        refine .inl (inR_iff.2 ⟨h4, h5, ?_⟩)
        rw [bef_not] at hb'; omega

/-- The new range and what stands behind it. -/
def ad2 (s x f : Int) : List Rg → List Rg
  | [] => [(s, f, x)]
  | y :: l => if y.1 = s ∧ y.2.1 - 1 = x then (s, f, y.2.2) :: l else (s, f, x) :: y :: l
/-- The list with an identity more. -/
def adL (s x : Int) : List Rg → List Rg
  | [] => [(s, x, x)]
  | y :: l => if y.1 = s ∧ y.2.2 + 1 = x then ad2 s x y.2.1 l else if bef s x y then y :: adL s x l else ad2 s x x (y :: l)

theorem ad2_cons (s x f : Int) (y : Rg) (l : List Rg) : ad2 s x f (y :: l) = if y.1 = s ∧ y.2.1 - 1 = x then (s, f, y.2.2) :: l else (s, f, x) :: y :: l := rfl
theorem adL_cons (s x : Int) (y : Rg) (l : List Rg) : adL s x (y :: l) = if y.1 = s ∧ y.2.2 + 1 = x then ad2 s x y.2.1 l else if bef s x y then y :: adL s x l else ad2 s x x (y :: l) := rfl
theorem ad2_start {s x f : Int} : ∀ {l : List Rg} {z : Rg}, z ∈ ad2 s x f l → z ∈ l ∨ (z.1 = s ∧ z.2.1 = f)
  | [], z, h => by
    obtain rfl : z = (s, f, x) := by simpa [ad2] using h
    exact .inr ⟨rfl, rfl⟩
  | y :: l, z, h => by
    rw [ad2_cons] at h
    split at h <;> rcases List.mem_cons.1 h with rfl | h
    · exact .inr ⟨rfl, rfl⟩
    · exact .inl (List.mem_cons_of_mem _ h)
    · exact .inr ⟨rfl, rfl⟩
    · exact .inl h
theorem adL_start {s x : Int} : ∀ {l : List Rg} {z : Rg}, z ∈ adL s x l → (∃ w ∈ l, z.1 = w.1 ∧ z.2.1 = w.2.1) ∨ (z.1 = s ∧ z.2.1 = x)
  | [], z, h => by
    obtain rfl : z = (s, x, x) := by simpa [adL] using h
    exact .inr ⟨rfl, rfl⟩
  | y :: l, z, h => by
    rw [adL_cons] at h
    split at h
    · rename_i hy
      rcases ad2_start h with h | h
      · exact .inl ⟨z, by simp [h], rfl, rfl⟩
      · exact .inl ⟨y, by simp, by rw [h.1, hy.1], h.2⟩
    · split at h
      · rcases List.mem_cons.1 h with rfl | h
        · exact .inl ⟨z, by simp, rfl, rfl⟩
        · rcases adL_start h with ⟨w, hw, h⟩ | h
          · exact .inl ⟨w, by simp [hw], h⟩
          · exact .inr h
      · rcases ad2_start h with h | h
        · exact .inl ⟨z, h, rfl, rfl⟩
        · exact .inr h
theorem apt_start {u z w : Rg} (h : apt u w = true) (h1 : z.1 = w.1) (h2 : z.2.1 = w.2.1) : apt u z = true := by
  rw [apt_iff] at *; rw [h1, h2]; exact h
theorem ad2_can {s x f : Int} (hi : idB s x = true) (hf : idB s f = true) (hfx : f ≤ x) : ∀ {l : List Rg}, Can l → (∀ y ∈ l, bef s x y = false) → hasL l s x = false → Can (ad2 s x f l)
  | [], _, _, _ => can_cons.2 ⟨okR_iff.2 ⟨hf, hi, hfx⟩, fun q h => (by cases h), can_nil⟩
  | y :: l, hl, hb, hn => by
    obtain ⟨h1, h2, h3⟩ := can_cons.1 hl
    obtain ⟨g1, g2, g3⟩ := okR_iff.1 h1
    rw [ad2_cons]
    split
    · rename_i h
      refine can_cons.2 ⟨okR_iff.2 ⟨hf, by rw [← h.1]; exact g2, ?_⟩, fun q hq => ?_, h3⟩
      · show f ≤ y.2.2; omega
      · have := h2 q hq
        rw [apt_iff] at this ⊢
        show s < q.1 ∨ s = q.1 ∧ y.2.2 + 1 < q.2.1
        omega
    · rename_i h
      have hny : inR s x y = false := by
        rw [has_cons] at hn; simp only [Bool.or_eq_false_iff] at hn; exact hn.1
      have hay : apt (s, f, x) y = true := by
        have hb' := hb y (by simp)
        rw [bef_not] at hb'
        rw [Bool.eq_false_iff] at hny
        have : ¬ (y.1 = s ∧ y.2.1 ≤ x ∧ x ≤ y.2.2) := fun h => hny (inR_iff.2 h)
        rw [apt_iff]
        show s < y.1 ∨ s = y.1 ∧ x + 1 < y.2.1
        omega
      refine can_cons.2 ⟨okR_iff.2 ⟨hf, hi, hfx⟩, fun q hq => ?_, hl⟩
      rcases List.mem_cons.1 hq with rfl | hq
      · exact hay
      · exact apt_trans h1 hay (h2 q hq)
theorem bef_rest {s x : Int} {y : Rg} {l : List Rg} (hl : Can (y :: l)) (h : y.1 = s ∧ y.2.2 + 1 = x) : ∀ z ∈ l, bef s x z = false := fun z hz => by
  obtain ⟨h1, h2, h3⟩ := can_cons.1 hl
  obtain ⟨_, _, h0⟩ := okR_iff.1 (h3.1 z hz)
  have := h2 z hz
  rw [apt_iff] at this; rw [bef_not]; omega
theorem bef_all {s x : Int} {y : Rg} {l : List Rg} (hl : Can (y :: l)) (h : bef s x y = false) : ∀ z ∈ y :: l, bef s x z = false := fun z hz => by
  obtain ⟨h1, h2, h3⟩ := can_cons.1 hl
  rcases List.mem_cons.1 hz with rfl | hz
  · exact h
  · exact bef_apt (h3.1 z hz) (h2 z hz) h
theorem adL_can {s x : Int} (hi : idB s x = true) : ∀ {l : List Rg}, Can l → hasL l s x = false → Can (adL s x l)
  | [], _, _ => can_cons.2 ⟨okR_iff.2 ⟨hi, hi, Int.le_refl _⟩, fun q h => (by cases h), can_nil⟩
  | y :: l, hl, hn => by
    obtain ⟨h1, h2, h3⟩ := can_cons.1 hl
    obtain ⟨g1, g2, g3⟩ := okR_iff.1 h1
    have hn' := hn
    rw [has_cons] at hn'
    simp only [Bool.or_eq_false_iff] at hn'
    rw [adL_cons]
    split
    · rename_i h
      exact ad2_can hi (by rw [← h.1]; exact g1) (by omega) h3 (bef_rest hl h) hn'.2
    · rename_i hne
      split
      · rename_i hb
        refine can_cons.2 ⟨h1, fun q hq => ?_, adL_can hi h3 hn'.2⟩
        rcases adL_start hq with ⟨w, hw, e1, e2⟩ | ⟨e1, e2⟩
        · exact apt_start (h2 w hw) e1 e2
        · rw [bef_iff] at hb
          rw [apt_iff, e1, e2]; omega
      · rename_i hb
        exact ad2_can hi hi (Int.le_refl _) hl (bef_all hl (by simpa using hb)) hn
theorem ad2_has {s x f : Int} (hfx : f ≤ x) (s' z : Int) : ∀ {l : List Rg}, Can l → hasL (ad2 s x f l) s' z = (hasL l s' z || inR s' z (s, f, x))
  | [], _ => by simp [ad2, hasL]
  | y :: l, hl => by
    obtain ⟨h1, h2, h3⟩ := can_cons.1 hl
    obtain ⟨g1, g2, g3⟩ := okR_iff.1 h1
    rw [ad2_cons]
    split
    · rename_i h
      rw [has_cons, has_cons, Bool.eq_iff_iff]
      simp only [Bool.or_eq_true, inR_iff]
      constructor
      · rintro (⟨a, b, c⟩ | hh)
        · by_cases hz : z ≤ x
          · exact .inr ⟨a, b, hz⟩
          · exact .inl (.inl ⟨by omega, by omega, c⟩)
        · exact .inl (.inr hh)
      · rintro ((⟨a, b, c⟩ | hh) | ⟨a, b, c⟩)
        · exact .inl ⟨by omega, by omega, c⟩
        · exact .inr hh
        · exact .inl ⟨a, b, by omega⟩
    · rw [has_cons, Bool.or_comm]
theorem adL_has {s x : Int} (s' z : Int) : ∀ {l : List Rg}, Can l → hasL (adL s x l) s' z = (hasL l s' z || (decide (s' = s) && decide (z = x)))
  | [], _ => by
    rw [Bool.eq_iff_iff]
    simp only [adL, hasL, List.any_cons, List.any_nil, Bool.or_false, Bool.false_or, Bool.and_eq_true, decide_eq_true_eq, inR_iff]
    omega
  | y :: l, hl => by
    obtain ⟨h1, h2, h3⟩ := can_cons.1 hl
    obtain ⟨g1, g2, g3⟩ := okR_iff.1 h1
    rw [adL_cons]
    split
    · rename_i h
      rw [ad2_has (by omega) _ _ h3, has_cons, Bool.eq_iff_iff]
      simp only [Bool.or_eq_true, Bool.and_eq_true, decide_eq_true_eq, inR_iff]
      constructor
      · rintro (hh | ⟨a, b, c⟩)
        · exact .inl (.inr hh)
        · by_cases hz : z = x
          · exact .inr ⟨by omega, hz⟩
          · exact .inl (.inl ⟨by omega, b, by omega⟩)
      · rintro ((⟨a, b, c⟩ | hh) | ⟨a, b⟩)
        · exact .inr ⟨by omega, b, by omega⟩
        · exact .inl hh
        · exact .inr ⟨by omega, by omega, by omega⟩
    · split
      · rw [has_cons, has_cons, adL_has s' z h3, Bool.or_assoc]
      · rw [ad2_has (Int.le_refl _) _ _ hl]
        congr 1
        rw [Bool.eq_iff_iff]
        simp only [Bool.and_eq_true, decide_eq_true_eq, inR_iff]
        omega

/-- One range, as the specification adds. -/
def stA (s x : Int) (p : List Rg × Rg × Bool) (y : Rg) : List Rg × Rg × Bool :=
  if y.1 = s ∧ y.2.2 + 1 = x then (p.1, (p.2.1.1, y.2.1, p.2.1.2.2), p.2.2)
  else if y.1 = s ∧ y.2.1 - 1 = x then (p.1, (p.2.1.1, p.2.1.2.1, y.2.2), p.2.2)
  else if (p.2.2 || bef s x y) = true then (p.1 ++ [y], p.2.1, p.2.2) else (p.1 ++ [p.2.1, y], p.2.1, true)
def finA (p : List Rg × Rg × Bool) : List Rg := if p.2.2 = true then p.1 else p.1 ++ [p.2.1]
/-- A range that the identity does not touch. -/
def Far (s x : Int) (y : Rg) : Prop := bef s x y = false ∧ ¬ (y.1 = s ∧ y.2.2 + 1 = x) ∧ ¬ (y.1 = s ∧ y.2.1 - 1 = x)
theorem fold_done {s x : Int} {r : Rg} : ∀ {l : List Rg} {out : List Rg}, (∀ z ∈ l, Far s x z) → finA (l.foldl (stA s x) (out, r, true)) = out ++ l
  | [], out, _ => by simp [finA]
  | y :: l, out, h => by
    obtain ⟨a, b, c⟩ := h y (by simp)
    rw [List.foldl_cons]
    have : stA s x (out, r, true) y = (out ++ [y], r, true) := by unfold stA; rw [if_neg b, if_neg c, if_pos (by rfl)]
    rw [this, fold_done (fun z hz => h z (by simp [hz]))]; simp
theorem fold_far {s x : Int} {r : Rg} {l : List Rg} {out : List Rg} (h : ∀ z ∈ l, Far s x z) : finA (l.foldl (stA s x) (out, r, false)) = out ++ r :: l := by
  cases l with
  | nil => simp [finA]
  | cons y l =>
    obtain ⟨a, b, c⟩ := h y (by simp)
    rw [List.foldl_cons]
    have : stA s x (out, r, false) y = (out ++ [r, y], r, true) := by unfold stA; rw [if_neg b, if_neg c, if_neg (by rw [a]; simp)]
    rw [this, fold_done (fun z hz => h z (by simp [hz]))]; simp
theorem fold_ad2 {s x f : Int} {l : List Rg} {out : List Rg} (hl : Can l) (hb : ∀ y ∈ l, bef s x y = false) (hn : hasL l s x = false) :
    finA (l.foldl (stA s x) (out, (s, f, x), false)) = out ++ ad2 s x f l := by
  cases l with
  | nil => simp [finA, ad2]
  | cons y l =>
    obtain ⟨h1, h2, h3⟩ := can_cons.1 hl
    obtain ⟨g1, g2, g3⟩ := okR_iff.1 h1
    have hy := bef_not.1 (hb y (by simp))
    have hrest : ∀ z ∈ l, y.1 = s → y.2.1 - 1 = x ∨ x < y.2.1 → Far s x z := fun z hz hs hx => by
      obtain ⟨_, _, h0⟩ := okR_iff.1 (h3.1 z hz)
      have := apt_iff.1 (h2 z hz)
      exact ⟨hb z (by simp [hz]), by omega, by omega⟩
    rw [ad2_cons]
    by_cases ht : y.1 = s ∧ y.2.1 - 1 = x
    · rw [if_pos ht, List.foldl_cons]
      have : stA s x (out, (s, f, x), false) y = (out, (s, f, y.2.2), false) := by unfold stA; rw [if_neg (by omega), if_pos ht]
      rw [this, fold_far (fun z hz => hrest z hz ht.1 (.inl ht.2))]
    · rw [if_neg ht]
      rw [has_cons, Bool.or_eq_false_iff] at hn
      have hny : ¬ (y.1 = s ∧ y.2.1 ≤ x ∧ x ≤ y.2.2) := fun h => by rw [inR_iff.2 h] at hn; cases hn.1
      refine fold_far (fun z hz => ?_)
      rcases List.mem_cons.1 hz with rfl | hz
      · exact ⟨hb z (by simp), by omega, ht⟩
      · obtain ⟨_, _, h0⟩ := okR_iff.1 (h3.1 z hz)
        have := apt_iff.1 (h2 z hz)
        exact ⟨hb z (by simp [hz]), by omega, by omega⟩
theorem fold_adL {s x : Int} : ∀ {l : List Rg} {out : List Rg}, Can l → hasL l s x = false → finA (l.foldl (stA s x) (out, (s, x, x), false)) = out ++ adL s x l
  | [], out, _, _ => by simp [finA, adL]
  | y :: l, out, hl, hn => by
    obtain ⟨h1, h2, h3⟩ := can_cons.1 hl
    obtain ⟨g1, g2, g3⟩ := okR_iff.1 h1
    have hn' := hn
    rw [has_cons, Bool.or_eq_false_iff] at hn'
    rw [adL_cons]
    by_cases ht : y.1 = s ∧ y.2.2 + 1 = x
    · rw [if_pos ht, List.foldl_cons]
      have : stA s x (out, (s, x, x), false) y = (out, (s, y.2.1, x), false) := by unfold stA; rw [if_pos ht]
      rw [this, fold_ad2 h3 (bef_rest hl ht) hn'.2]
    · rw [if_neg ht]
      by_cases hb : bef s x y = true
      · rw [if_pos hb, List.foldl_cons]
        have hb' := bef_iff.1 hb
        have : stA s x (out, (s, x, x), false) y = (out ++ [y], (s, x, x), false) := by unfold stA; rw [if_neg ht, if_neg (by omega), if_pos (by rw [hb]; rfl)]
        rw [this, fold_adL h3 hn'.2]; simp
      · rw [if_neg hb]
        exact fold_ad2 hl (bef_all hl (by simpa using hb)) hn
/-- How the program inserts. -/
def iM (s x : Int) (l : List Rg) : Bool := decide (0 < plc s x l) && !apt (l.getD (plc s x l - 1) rg0) (s, x, x)
def iA (s x : Int) (l : List Rg) : Nat := if iM s x l = true then plc s x l - 1 else plc s x l
def iF (s x : Int) (l : List Rg) : Int := if iM s x l = true then (l.getD (plc s x l - 1) rg0).2.1 else x
def iK (s x : Int) (l : List Rg) : Bool := decide (plc s x l < l.length) && !apt (s, iF s x l, x) (l.getD (plc s x l) rg0)
def iB (s x : Int) (l : List Rg) : Nat := if iK s x l = true then plc s x l + 1 else plc s x l
def iT (s x : Int) (l : List Rg) : Int := if iK s x l = true then (l.getD (plc s x l) rg0).2.2 else x
theorem ins_at {s x f : Int} {l : List Rg} (hl : Can l) (hb : ∀ y ∈ l, bef s x y = false) (hn : hasL l s x = false) :
    (s, f, (if (decide (0 < l.length) && !apt (s, f, x) (l.getD 0 rg0)) = true then (l.getD 0 rg0).2.2 else x)) :: l.drop (if (decide (0 < l.length) && !apt (s, f, x) (l.getD 0 rg0)) = true then 1 else 0) = ad2 s x f l := by
  cases l with
  | nil => simp [ad2]
  | cons y l =>
    obtain ⟨h1, h2, h3⟩ := can_cons.1 hl
    obtain ⟨g1, g2, g3⟩ := okR_iff.1 h1
    have hy := bef_not.1 (hb y (by simp))
    rw [has_cons, Bool.or_eq_false_iff] at hn
    have hny : ¬ (y.1 = s ∧ y.2.1 ≤ x ∧ x ≤ y.2.2) := fun h => by rw [inR_iff.2 h] at hn; cases hn.1
    rw [ad2_cons]
    by_cases ht : y.1 = s ∧ y.2.1 - 1 = x
    · have ha : apt (s, f, x) y = false := by
        rw [Bool.eq_false_iff]; intro h; rw [apt_iff] at h
        have h : s < y.1 ∨ s = y.1 ∧ x + 1 < y.2.1 := h
        omega
      simp [ha, ht]
    · have ha : apt (s, f, x) y = true := by
        rw [apt_iff]; show s < y.1 ∨ s = y.1 ∧ x + 1 < y.2.1; omega
      rw [if_neg ht]
      simp [ha]
theorem ins_adL {s x : Int} : ∀ {l : List Rg}, Can l → hasL l s x = false → l.take (iA s x l) ++ (s, iF s x l, iT s x l) :: l.drop (iB s x l) = adL s x l
  | [], _, _ => by simp [iA, iB, iF, iT, iM, iK, plc, adL]
  | y :: l, hl, hn => by
    obtain ⟨h1, h2, h3⟩ := can_cons.1 hl
    obtain ⟨g1, g2, g3⟩ := okR_iff.1 h1
    have hn' := hn
    rw [has_cons, Bool.or_eq_false_iff] at hn'
    rw [adL_cons]
    by_cases hb : bef s x y = true
    · have hp : plc s x (y :: l) = plc s x l + 1 := by show (if _ then _ else _) = _; rw [if_pos hb]
      have hb' := bef_iff.1 hb
      by_cases ht : y.1 = s ∧ y.2.2 + 1 = x
      · rw [if_pos ht]
        have hr := bef_rest hl ht
        have hp0 : plc s x l = 0 := by
          cases l with
          | nil => rfl
          | cons z l => show (if _ then _ else _) = _; rw [if_neg (by rw [hr z (by simp)]; simp)]
        have ha : apt y (s, x, x) = false := by
          rw [Bool.eq_false_iff]; intro h; rw [apt_iff] at h
          have h : y.1 < s ∨ y.1 = s ∧ y.2.2 + 1 < x := h
          omega
        have hM : iM s x (y :: l) = true := by unfold iM; rw [hp, hp0]; simp [ha]
        have hA : iA s x (y :: l) = 0 := by unfold iA; rw [if_pos hM, hp, hp0]
        have hF : iF s x (y :: l) = y.2.1 := by unfold iF; rw [if_pos hM, hp, hp0]; rfl
        have hK : iK s x (y :: l) = (decide (0 < l.length) && !apt (s, y.2.1, x) (l.getD 0 rg0)) := by unfold iK; rw [hF, hp, hp0]; simp
        rw [hA, hF, iT, iB, hK, hp, hp0, ← ins_at h3 hr hn'.2]
        have e : (y :: l).getD (0 + 1) rg0 = l.getD 0 rg0 := by simp
        rw [e]
        split <;> simp
      · rw [if_neg ht, if_pos hb, ← ins_adL h3 hn'.2]
        have hM : iM s x (y :: l) = iM s x l := by
          unfold iM
          rw [hp]
          cases hq : plc s x l with
          | zero =>
            have ha : apt y (s, x, x) = true := by rw [apt_iff]; show y.1 < s ∨ y.1 = s ∧ y.2.2 + 1 < x; omega
            simp [ha]
          | succ n => simp
        have h0 : iM s x l = true → 0 < plc s x l := by unfold iM; simp only [Bool.and_eq_true, decide_eq_true_eq]; exact fun h => h.1
        have hA : iA s x (y :: l) = iA s x l + 1 := by
          unfold iA; rw [hM, hp]; split
          · rename_i h; have := h0 h; omega
          · rfl
        have hF : iF s x (y :: l) = iF s x l := by
          unfold iF; rw [hM, hp]; split
          · rename_i h
            obtain ⟨n, hn⟩ : ∃ n, plc s x l = n + 1 := ⟨plc s x l - 1, by have := h0 h; omega⟩
            rw [hn]; simp
          · rfl
        have hK : iK s x (y :: l) = iK s x l := by unfold iK; rw [hF, hp]; simp
        have hB : iB s x (y :: l) = iB s x l + 1 := by unfold iB; rw [hK, hp]; split <;> rfl
        have hT : iT s x (y :: l) = iT s x l := by unfold iT; rw [hK, hp]; simp
        rw [hA, hB, hF, hT]; simp
    · have hp : plc s x (y :: l) = 0 := by show (if _ then _ else _) = _; rw [if_neg hb]
      have hb' := bef_not.1 (show bef s x y = false by simpa using hb)
      rw [if_neg (by omega), if_neg hb, ← ins_at hl (bef_all hl (by simpa using hb)) hn]
      have hM : iM s x (y :: l) = false := by unfold iM; rw [hp]; simp
      have hA : iA s x (y :: l) = 0 := by unfold iA; rw [hM, hp]; rfl
      have hF : iF s x (y :: l) = x := by unfold iF; rw [hM]; rfl
      rw [hA, hF, iT, iB, iK, hF, hp]
      simp
end Go.Proofs.Ytgobbeommjjlfaa
