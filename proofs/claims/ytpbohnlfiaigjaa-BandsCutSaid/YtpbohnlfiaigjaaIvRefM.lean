/- Plain mathematics of the reference: ascending limits, and the choice between them. -/
import Derived.Test.YtpbohnlfiaigjaaIvM
namespace Go.Proofs.Ytpbohnlfiaigjaa

/-- The reference's insertion into a list: what it appends from here on. -/
def adGo (n : Int) (d : Bool) : List Int → List Int
  | [] => if d then [] else [n]
  | x :: l => (if !d && decide (n ≤ x) then [n] else []) ++ (if x = n then [] else [x]) ++ adGo n (d || decide (n ≤ x)) l
def adL (l : List Int) (n : Int) : List Int := adGo n false l
theorem getD_in {l : List Int} {i : Nat} (h : i < l.length) : l.getD i 0 = l[i] := by simp [List.getD, List.getElem?_eq_getElem h]
abbrev asc (l : List Int) : Prop := l.Pairwise (· < ·)
theorem adGo_true {n : Int} : ∀ {l : List Int}, (∀ x ∈ l, n < x) → adGo n true l = l := by
  intro l
  induction l with
  | nil => intro _; rfl
  | cons x l ih =>
    intro h
    have hx := h x (by simp)
    unfold adGo
    rw [Bool.true_or, ih fun y hy => h y (by simp [hy]), if_neg (by simp), if_neg (by omega)]
    rfl
theorem adGo_asc {n : Int} : ∀ {l : List Int}, asc l → asc (adGo n false l) ∧ ∀ x, x ∈ adGo n false l ↔ x = n ∨ x ∈ l := by
  intro l
  induction l with
  | nil => intro _; unfold adGo; simp
  | cons x l ih =>
    intro h
    obtain ⟨h1, h2⟩ := List.pairwise_cons.1 h
    unfold adGo
    by_cases hx : n ≤ x
    · rw [decide_eq_true hx]
      by_cases he : x = n
      · subst he
        rw [if_pos (by simp), if_pos rfl, Bool.or_true, adGo_true h1]
        exact ⟨List.pairwise_cons.2 ⟨h1, h2⟩, fun y => by simp⟩
      · rw [if_pos (by simp), if_neg he, Bool.or_true, adGo_true fun y hy => by have := h1 y hy; omega]
        refine ⟨List.pairwise_cons.2 ⟨fun y hy => ?_, List.pairwise_cons.2 ⟨h1, h2⟩⟩, fun y => by simp⟩
        simp at hy
        rcases hy with rfl | hy
        · omega
        · have := h1 y hy; omega
    · rw [decide_eq_false hx, if_neg (by simp), if_neg (by omega), Bool.or_false]
      obtain ⟨i1, i2⟩ := ih h2
      refine ⟨List.pairwise_cons.2 ⟨fun y hy => ?_, i1⟩, fun y => ?_⟩
      · rcases (i2 y).1 hy with rfl | hy
        · omega
        · exact h1 y hy
      · show y ∈ x :: adGo n false l ↔ _
        rw [List.mem_cons, i2 y, List.mem_cons]
        constructor <;> (rintro (h | h | h) <;> simp [h])
theorem adL_asc {l : List Int} (h : asc l) (n : Int) : asc (adL l n) ∧ ∀ x, x ∈ adL l n ↔ x = n ∨ x ∈ l := adGo_asc h
theorem adGo_length (n : Int) : ∀ (l : List Int) (d : Bool), (adGo n d l).length ≤ l.length + 1 := by
  intro l
  induction l with
  | nil => intro d; unfold adGo; cases d <;> simp
  | cons x l ih =>
    intro d
    have h1 := ih d
    have h2 : (adGo n true l).length ≤ l.length := by
      clear h1 ih
      induction l with
      | nil => simp [adGo]
      | cons y l ih => unfold adGo; simp only [Bool.true_or, Bool.not_true, Bool.false_and, Bool.false_eq_true, if_false, List.nil_append, List.length_append, List.length_cons]; split <;> simp <;> omega
    unfold adGo
    cases d
    · by_cases hx : n ≤ x
      · simp only [hx, decide_true, Bool.or_true, Bool.not_false, Bool.and_true, if_true, List.length_append, List.length_cons, List.length_nil]
        split <;> simp <;> omega
      · simp only [hx, decide_false, Bool.or_false, Bool.not_false, Bool.and_false, Bool.false_eq_true, if_false, List.length_append, List.length_cons, List.length_nil]
        split <;> simp <;> omega
    · simp only [Bool.true_or, Bool.not_true, Bool.false_and, Bool.false_eq_true, if_false, List.length_append, List.length_cons, List.length_nil]
      split <;> simp <;> omega
/-- Ascending lists with the same elements are one. -/
theorem asc_uniq : ∀ {l m : List Int}, asc l → asc m → (∀ x, x ∈ l ↔ x ∈ m) → l = m := by
  intro l
  induction l with
  | nil =>
    intro m _ _ h
    cases m with
    | nil => rfl
    | cons y m => have := (h y).2 (by simp); cases this
  | cons x l ih =>
    intro m hl hm h
    obtain ⟨h1, h2⟩ := List.pairwise_cons.1 hl
    cases m with
    | nil => have := (h x).1 (by simp); cases this
    | cons y m =>
      obtain ⟨g1, g2⟩ := List.pairwise_cons.1 hm
      have e : x = y := by
        rcases List.mem_cons.1 ((h x).1 (by simp)) with e | hx
        · exact e
        · rcases List.mem_cons.1 ((h y).2 (by simp)) with e | hy
          · exact e.symm
          · have := g1 x hx; have := h1 y hy; omega
      subst e
      rw [ih h2 g2 fun z => ?_]
      have := h z
      constructor
      · intro hz
        rcases List.mem_cons.1 ((h z).1 (by simp [hz])) with rfl | h'
        · have := h1 _ hz; omega
        · exact h'
      · intro hz
        rcases List.mem_cons.1 ((h z).2 (by simp [hz])) with rfl | h'
        · have := g1 _ hz; omega
        · exact h'
/-- The limits of a list's valid elements, added. -/
def lim (l : List Int) (L : List Pd) : List Int := L.foldl (fun l p => if vl p then adL (adL l p.1) p.2 else l) l
theorem lim_nil (l : List Int) : lim l [] = l := rfl
theorem lim_snoc (l : List Int) (L : List Pd) (p : Pd) : lim l (L ++ [p]) = if vl p then adL (adL (lim l L) p.1) p.2 else lim l L := by
  unfold lim; rw [List.foldl_append]; rfl
theorem lim_asc : ∀ (L : List Pd) {l : List Int}, asc l → asc (lim l L) ∧ ∀ x, x ∈ lim l L ↔ x ∈ l ∨ ∃ p ∈ L, vl p = true ∧ (x = p.1 ∨ x = p.2) := by
  intro L
  induction L with
  | nil => intro l h; exact ⟨h, fun x => by simp [lim_nil]⟩
  | cons p L ih =>
    intro l h
    show asc (lim (if vl p then adL (adL l p.1) p.2 else l) L) ∧ ∀ x, x ∈ lim (if vl p then adL (adL l p.1) p.2 else l) L ↔ _
    cases hv : vl p
    · rw [if_neg (by simp)]
      obtain ⟨i1, i2⟩ := ih h
      exact ⟨i1, fun x => by rw [i2 x]; simp [hv]⟩
    · rw [if_pos rfl]
      obtain ⟨a1, a2⟩ := adL_asc h p.1
      obtain ⟨b1, b2⟩ := adL_asc a1 p.2
      obtain ⟨i1, i2⟩ := ih b1
      refine ⟨i1, fun x => ?_⟩
      rw [i2 x, b2 x, a2 x]
      simp only [List.mem_cons, exists_eq_or_imp, hv, true_and]
      constructor
      · rintro ((h | h | h) | h)
        · exact .inr (.inl (.inr h))
        · exact .inr (.inl (.inl h))
        · exact .inl h
        · exact .inr (.inr h)
      · rintro (h | (h | h) | h)
        · exact .inl (.inr (.inr h))
        · exact .inl (.inr (.inl h))
        · exact .inl (.inl h)
        · exact .inr h
theorem lim_length : ∀ (L : List Pd) (l : List Int), (lim l L).length ≤ l.length + 2 * L.length := by
  intro L
  induction L with
  | nil => intro l; exact Nat.le_refl _
  | cons p L ih =>
    intro l
    have h := ih (if vl p then adL (adL l p.1) p.2 else l)
    have h1 := adGo_length p.1 l false
    have h2 := adGo_length p.2 (adL l p.1) false
    show (lim (if vl p then adL (adL l p.1) p.2 else l) L).length ≤ _
    unfold adL at h h1 h2 ⊢
    cases hv : vl p <;> simp [hv] at h ⊢ <;> omega
/-- The choice's step: the part from x to y, if its instants are chosen. -/
def chS (M : Int → Bool) (out : List Pd) (x y : Int) : List Pd :=
  if M x then
    match out.getLast? with
    | some q => if q.2 = x then out.dropLast ++ [(q.1, y)] else out ++ [(x, y)]
    | none => out ++ [(x, y)]
  else out
def chG (M : Int → Bool) (out : List Pd) : List Int → List Pd
  | x :: y :: l => chG M (chS M out x y) (y :: l)
  | _ => out
/-- The same by the index. -/
def chN (M : Int → Bool) (l : List Int) : Nat → List Pd
  | 0 => []
  | i + 1 => if i + 1 < l.length then chS M (chN M l i) (l.getD i 0) (l.getD (i + 1) 0) else chN M l i
theorem chS_length (M : Int → Bool) (out : List Pd) (x y : Int) : (chS M out x y).length ≤ out.length + 1 := by
  unfold chS
  split
  · split
    · split
      · simp <;> omega
      · simp
    · simp
  · omega
theorem chN_length (M : Int → Bool) (l : List Int) (i : Nat) : (chN M l i).length ≤ i := by
  induction i with
  | zero => exact Nat.le_refl _
  | succ i ih =>
    unfold chN
    split
    · have := chS_length M (chN M l i) (l.getD i 0) (l.getD (i + 1) 0); omega
    · omega
theorem chS_no {M : Int → Bool} {out : List Pd} {x y : Int} (h : M x = false) : chS M out x y = out := by unfold chS; rw [h]; rfl
theorem chS_new {M : Int → Bool} {x y : Int} (h : M x = true) : chS M [] x y = [(x, y)] := by unfold chS; rw [h]; rfl
theorem chS_grow {M : Int → Bool} {out : List Pd} {q : Pd} {x y : Int} (h : M x = true) (hq : q.2 = x) : chS M (out ++ [q]) x y = out ++ [(q.1, y)] := by
  unfold chS; rw [h]; simp [hq]
theorem chS_add {M : Int → Bool} {out : List Pd} {q : Pd} {x y : Int} (h : M x = true) (hq : q.2 ≠ x) : chS M (out ++ [q]) x y = out ++ [q] ++ [(x, y)] := by
  unfold chS; rw [h]; simp [hq]
/-- One step keeps the result canonical, and adds a part. -/
theorem chS_spec {M : Int → Bool} {out : List Pd} {x y : Int} (hx : 0 ≤ x) (hxy : x < y) (hy : y ≤ 12622780800) (hc : can out) (ht : ∀ q ∈ out, q.2 ≤ x) :
    can (chS M out x y) ∧ (∀ q ∈ chS M out x y, q.2 ≤ y) ∧ ∀ t, mem (chS M out x y) t = (mem out t || (M x && decide (x ≤ t ∧ t < y))) := by
  cases hM : M x
  · rw [chS_no hM]
    exact ⟨hc, fun q hq => by have := ht q hq; omega, fun t => by simp⟩
  · have hv : vl (x, y) = true := vl_iff.2 ⟨hx, hxy, hy⟩
    rcases List.eq_nil_or_concat out with rfl | ⟨o, q, rfl⟩
    · rw [chS_new hM]
      exact ⟨can_cons.2 ⟨hv, (fun q hq => by cases hq), can_nil⟩, fun q hq => by rw [List.mem_singleton.1 hq]; exact Int.le_refl _, fun t => by rw [mem_cons, mem_nil]; unfold ctn; rw [hv]; simp⟩
    · rw [List.concat_eq_append] at hc ht ⊢
      obtain ⟨c1, c2, c3⟩ := can_init hc
      have hq := vl_iff.1 c2
      have htq := ht q (by simp)
      by_cases he : q.2 = x
      · rw [chS_grow hM he]
        have hv2 : vl (q.1, y) = true := vl_iff.2 ⟨hq.1, by simp; omega, hy⟩
        refine ⟨can_snoc c1 hv2 c3, fun r hr => ?_, fun t => ?_⟩
        · rcases List.mem_append.1 hr with hr | hr
          · have := ht r (by simp [hr]); omega
          · rw [List.mem_singleton.1 hr]; exact Int.le_refl _
        · rw [mem_append, mem_append, mem_cons, mem_nil, mem_cons, mem_nil, Bool.or_false, Bool.or_false, Bool.or_assoc]
          congr 1
          unfold ctn
          rw [hv2, c2]
          simp only [Bool.true_and]
          rw [Bool.eq_iff_iff]
          simp
          omega
      · rw [chS_add hM he]
        refine ⟨can_snoc hc hv fun r hr => ?_, fun r hr => ?_, fun t => ?_⟩
        · rcases List.mem_append.1 hr with hr' | hr'
          · have := c3 r hr'; show r.2 < x; omega
          · rw [List.mem_singleton.1 hr']; show q.2 < x; omega
        · rcases List.mem_append.1 hr with hr' | hr'
          · have := ht r hr'; omega
          · rw [List.mem_singleton.1 hr']; exact Int.le_refl _
        · rw [mem_append, mem_cons, mem_nil, Bool.or_false]
          congr 1
          unfold ctn
          rw [hv]
/-- The choice between ascending limits: the canonical list. -/
theorem chN_spec {M : Int → Bool} {l : List Int} (hl : asc l) (hr : ∀ x ∈ l, 0 ≤ x ∧ x ≤ 12622780800)
    (hM : ∀ x t, (∀ y ∈ l, ¬ (x < y ∧ y ≤ t)) → x ≤ t → M t = M x) (hlow : ∀ t, t < l.getD 0 0 → M t = false) :
    ∀ i, i + 1 ≤ l.length → can (chN M l i) ∧ (∀ q ∈ chN M l i, q.2 ≤ l.getD i 0) ∧ ∀ t, t < l.getD i 0 → mem (chN M l i) t = M t := by
  have hget : ∀ i j, i < j → j < l.length → l.getD i 0 < l.getD j 0 := by
    intro i j hij hj
    rw [getD_in (show i < l.length by omega), getD_in hj]
    exact List.pairwise_iff_getElem.1 hl i j (by omega) hj hij
  have hmem : ∀ i, i < l.length → l.getD i 0 ∈ l := by
    intro i hi
    rw [getD_in hi]
    exact List.getElem_mem hi
  intro i
  induction i with
  | zero => intro _; exact ⟨can_nil, (fun q hq => by cases hq), fun t h1 => (hlow t h1).symm⟩
  | succ i ih =>
    intro hi
    obtain ⟨i1, i2, i3⟩ := ih (by omega)
    have h1 := hr _ (hmem i (by omega))
    have h2 := hr _ (hmem (i + 1) (by omega))
    have h3 := hget i (i + 1) (by omega) (by omega)
    unfold chN
    rw [if_pos (by omega)]
    obtain ⟨s1, s2, s3⟩ := chS_spec (M := M) h1.1 h3 h2.2 i1 i2
    refine ⟨s1, s2, fun t h5 => ?_⟩
    rw [s3 t]
    rcases Int.lt_or_le t (l.getD i 0) with h | h
    · rw [i3 t h, decide_eq_false (by omega), Bool.and_false, Bool.or_false]
    · rw [mem_after i2 h, decide_eq_true ⟨h, h5⟩, Bool.and_true, Bool.false_or]
      refine (hM _ _ (fun y hy hlt => ?_) h).symm
      obtain ⟨j, hj, rfl⟩ := List.getElem_of_mem hy
      have e : l[j] = l.getD j 0 := by rw [getD_in hj]
      rw [e] at hlt
      rcases Nat.lt_trichotomy j (i + 1) with hji | rfl | hji
      · rcases Nat.lt_or_eq_of_le (show j ≤ i by omega) with hji | rfl
        · have := hget j i hji (by omega); omega
        · omega
      · omega
      · have := hget (i + 1) j hji hj; omega
/-- The whole of the reference's choice. -/
def chA (M : Int → Bool) (l : List Int) : List Pd := chN M l (l.length - 1)
theorem ctn_const {p : Pd} {x t : Int} (hx : x ≤ t) (h : vl p = true → ¬ (x < p.1 ∧ p.1 ≤ t) ∧ ¬ (x < p.2 ∧ p.2 ≤ t)) : ctn p t = ctn p x := by
  unfold ctn
  cases hv : vl p
  · rfl
  · have := h hv
    rw [Bool.true_and, Bool.true_and, Bool.eq_iff_iff]
    simp
    omega
theorem mem_const {L : List Pd} {x t : Int} (hx : x ≤ t) (h : ∀ p ∈ L, vl p = true → ¬ (x < p.1 ∧ p.1 ≤ t) ∧ ¬ (x < p.2 ∧ p.2 ≤ t)) : mem L t = mem L x := by
  induction L with
  | nil => rfl
  | cons p L ih => rw [mem_cons, mem_cons, ctn_const hx (h p (by simp)), ih fun q hq => h q (by simp [hq])]
/-- The reference's choice over the limits of two lists. -/
theorem ref_all {f : Bool → Bool → Bool} (hf : f false false = false) (A B : List Pd) :
    can (chA (fun t => f (mem A t) (mem B t)) (lim (lim [] A) B)) ∧ ∀ t, mem (chA (fun t => f (mem A t) (mem B t)) (lim (lim [] A) B)) t = f (mem A t) (mem B t) := by
  obtain ⟨a1, a2⟩ := lim_asc A (l := []) .nil
  obtain ⟨b1, b2⟩ := lim_asc B a1
  have hin : ∀ p, (p ∈ A ∨ p ∈ B) → vl p = true → p.1 ∈ lim (lim [] A) B ∧ p.2 ∈ lim (lim [] A) B := by
    intro p hp hv
    rw [b2, b2, a2, a2]
    rcases hp with hp | hp
    · exact ⟨.inl (.inr ⟨p, hp, hv, .inl rfl⟩), .inl (.inr ⟨p, hp, hv, .inr rfl⟩)⟩
    · exact ⟨.inr ⟨p, hp, hv, .inl rfl⟩, .inr ⟨p, hp, hv, .inr rfl⟩⟩
  have hr : ∀ x ∈ lim (lim [] A) B, 0 ≤ x ∧ x ≤ 12622780800 := by
    intro x hx
    rw [b2, a2] at hx
    rcases hx with (hx | ⟨p, _, hv, hx⟩) | ⟨p, _, hv, hx⟩
    · cases hx
    · have := vl_iff.1 hv; rcases hx with rfl | rfl <;> omega
    · have := vl_iff.1 hv; rcases hx with rfl | rfl <;> omega
  have hconst : ∀ x t, (∀ y ∈ lim (lim [] A) B, ¬ (x < y ∧ y ≤ t)) → x ≤ t → f (mem A t) (mem B t) = f (mem A x) (mem B x) := by
    intro x t h hx
    rw [mem_const (L := A) hx fun p hp hv => ⟨h _ (hin p (.inl hp) hv).1, h _ (hin p (.inl hp) hv).2⟩, mem_const (L := B) hx fun p hp hv => ⟨h _ (hin p (.inr hp) hv).1, h _ (hin p (.inr hp) hv).2⟩]
  generalize hl : lim (lim [] A) B = l at *
  have hnone : ∀ (L : List Pd), (∀ p ∈ L, vl p = true → p.1 ∈ l ∧ p.2 ∈ l) → ∀ t, ((∀ y ∈ l, t < y) ∨ (∀ y ∈ l, y ≤ t)) → mem L t = false := by
    intro L hL t ht
    cases e : mem L t
    · rfl
    · obtain ⟨p, hp, hc⟩ := mem_iff.1 e
      obtain ⟨hv, h1, h2⟩ := ctn_iff.1 hc
      obtain ⟨g1, g2⟩ := hL p hp hv
      rcases ht with ht | ht
      · have := ht _ g1; omega
      · have := ht _ g2; omega
  have hout : ∀ t, ((∀ y ∈ l, t < y) ∨ (∀ y ∈ l, y ≤ t)) → f (mem A t) (mem B t) = false := by
    intro t ht
    rw [hnone A (fun p hp hv => hin p (.inl hp) hv) t ht, hnone B (fun p hp hv => hin p (.inr hp) hv) t ht, hf]
  rcases Nat.eq_zero_or_pos l.length with h0 | h0
  · have : l = [] := List.length_eq_zero_iff.1 h0
    subst this
    exact ⟨can_nil, fun t => (hout t (.inl fun y hy => by cases hy)).symm⟩
  · have hget : ∀ y ∈ l, l.getD 0 0 ≤ y ∧ y ≤ l.getD (l.length - 1) 0 := by
      intro y hy
      obtain ⟨j, hj, rfl⟩ := List.getElem_of_mem hy
      rw [getD_in h0, getD_in (show l.length - 1 < l.length by omega)]
      have hp := List.pairwise_iff_getElem.1 b1
      constructor
      · rcases Nat.eq_zero_or_pos j with rfl | hj0
        · exact Int.le_refl _
        · have := hp 0 j h0 hj hj0; omega
      · rcases Nat.lt_or_eq_of_le (show j ≤ l.length - 1 by omega) with h | rfl
        · have := hp j (l.length - 1) hj (by omega) h; omega
        · exact Int.le_refl _
    obtain ⟨s1, s2, s3⟩ := chN_spec (M := fun t => f (mem A t) (mem B t)) b1 hr hconst (fun t ht => hout t (.inl fun y hy => by have := hget y hy; omega)) (l.length - 1) (by omega)
    refine ⟨s1, fun t => ?_⟩
    show mem (chN _ l (l.length - 1)) t = _
    rcases Int.lt_or_le t (l.getD (l.length - 1) 0) with h' | h'
    · exact s3 t h'
    · rw [hout t (.inr fun y hy => by have := hget y hy; omega)]
      exact mem_after s2 h'
end Go.Proofs.Ytpbohnlfiaigjaa
