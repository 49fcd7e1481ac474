/- Plain mathematics: a period is divided; the values of the layer's functions. -/
import Derived.Test.YtpbohnlfiaigjaaIvRefM
import Derived.Test.YtpbohnlfiaigjaaIvScanM
import Derived.Lib.SlicesCompact
namespace Go.Proofs.Ytpbohnlfiaigjaa

theorem compact_spec {d : Array Int} (hs : ∀ i j, i < j → j < d.size → d[i]! ≤ d[j]!) : ∀ m, m ≤ d.size → asc (Lib.compactUpTo d m) ∧ (∀ x, x ∈ Lib.compactUpTo d m ↔ ∃ j, j < m ∧ d[j]! = x) := by
  intro m
  induction m with
  | zero => intro _; exact ⟨List.Pairwise.nil, fun x => by simp [Lib.compactUpTo]⟩
  | succ m ih =>
    intro hm
    obtain ⟨i1, i2⟩ := ih (by omega)
    rw [Lib.compactUpTo_succ]
    by_cases hk : Lib.keeps d m = true
    · rw [if_pos hk]
      refine ⟨?_, fun x => ?_⟩
      · unfold asc
        rw [List.pairwise_append]
        refine ⟨i1, List.pairwise_singleton _ _, fun a ha b hb => ?_⟩
        rw [List.mem_singleton.1 hb]
        obtain ⟨j, hj, rfl⟩ := (i2 a).1 ha
        have h1 := hs j m hj (by omega)
        rcases Nat.eq_zero_or_pos m with rfl | hm0
        · omega
        · have hne : d[m]! ≠ d[m - 1]! := by
            intro he
            have := Lib.keeps_neg hm0 he
            rw [hk] at this; cases this
          have h2 := hs (m - 1) m (by omega) (by omega)
          have h3 : d[j]! ≤ d[m - 1]! := by
            rcases Nat.lt_or_eq_of_le (show j ≤ m - 1 by omega) with h | h
            · exact hs j (m - 1) h (by omega)
            · rw [h]; exact Int.le_refl _
          omega
      · rw [List.mem_append, i2 x, List.mem_singleton]
        constructor
        · rintro (⟨j, hj, rfl⟩ | rfl)
          · exact ⟨j, by omega, rfl⟩
          · exact ⟨m, by omega, rfl⟩
        · rintro ⟨j, hj, rfl⟩
          rcases Nat.lt_or_eq_of_le (show j ≤ m by omega) with h | rfl
          · exact .inl ⟨j, h, rfl⟩
          · exact .inr rfl
    · rw [if_neg hk, List.append_nil]
      refine ⟨i1, fun x => ?_⟩
      rw [i2 x]
      constructor
      · rintro ⟨j, hj, rfl⟩
        exact ⟨j, by omega, rfl⟩
      · rintro ⟨j, hj, rfl⟩
        rcases Nat.lt_or_eq_of_le (show j ≤ m by omega) with h | rfl
        · exact ⟨j, h, rfl⟩
        · rcases Nat.eq_zero_or_pos j with rfl | hj0
          · exact absurd (Lib.keeps_lt_one d 0 (by omega)) hk
          · by_cases he : d[j]! = d[j - 1]!
            · exact ⟨j - 1, by omega, he.symm⟩
            · exact absurd (Lib.keeps_pos he) hk
/-- A sorted list, compacted: ascending, the same elements. -/
theorem compact_sort (zs : List Int) : asc (Lib.compact (zs.mergeSort fun x y => decide (x ≤ y))) ∧ ∀ x, x ∈ Lib.compact (zs.mergeSort fun x y => decide (x ≤ y)) ↔ x ∈ zs := by
  have hp := List.mergeSort_perm zs (fun x y => decide (x ≤ y))
  have hsd := List.pairwise_mergeSort (le := fun x y : Int => decide (x ≤ y)) (fun a b c h1 h2 => by simp at *; omega) (fun a b => by simp; omega) zs
  generalize zs.mergeSort (fun x y => decide (x ≤ y)) = s at *
  have h := compact_spec (d := s.toArray) (fun i j hij hj => by
    rw [List.size_toArray] at hj
    rw [getElem!_pos s.toArray i (by rw [List.size_toArray]; omega), getElem!_pos s.toArray j (by rw [List.size_toArray]; omega)]
    have := List.pairwise_iff_getElem.1 hsd i j (by omega) hj hij
    simpa using this) s.length (by rw [List.size_toArray]; exact Nat.le_refl _)
  refine ⟨h.1, fun x => ?_⟩
  rw [← hp.mem_iff]
  refine (h.2 x).trans ?_
  rw [List.mem_iff_getElem]
  constructor
  · rintro ⟨j, hj, he⟩
    rw [getElem!_pos s.toArray j (by rw [List.size_toArray]; omega)] at he
    exact ⟨j, hj, by simpa using he⟩
  · rintro ⟨j, hj, he⟩
    refine ⟨j, hj, ?_⟩
    rw [getElem!_pos s.toArray j (by rw [List.size_toArray]; omega)]
    simpa using he

/-- Adjacent parts that end at the elements of a list. -/
def prs (a : Int) : List Int → List Pd
  | [] => []
  | x :: l => (a, x) :: prs x l
theorem prs_length (a : Int) (l : List Int) : (prs a l).length = l.length := by
  induction l generalizing a with
  | nil => rfl
  | cons x l ih => simp [prs, ih]
theorem prs_snoc (a x : Int) (l : List Int) : prs a (l ++ [x]) = prs a l ++ [(l.getLastD a, x)] := by
  induction l generalizing a with
  | nil => rfl
  | cons y l ih =>
    show (a, y) :: prs y (l ++ [x]) = _
    rw [ih]
    show _ = (a, y) :: (prs y l ++ _)
    congr 2
    cases l <;> simp [List.getLastD]
/-- The instants at which a period is cut, and its end. -/
def cutE (a b : Int) (l : List Int) : List Int := l.foldl (fun l t => if a < t ∧ t < b then adL l t else l) [b]
theorem cutE_nil (a b : Int) : cutE a b [] = [b] := rfl
theorem cutE_snoc (a b : Int) (l : List Int) (t : Int) : cutE a b (l ++ [t]) = if a < t ∧ t < b then adL (cutE a b l) t else cutE a b l := by
  unfold cutE; rw [List.foldl_append]; rfl
theorem cutE_spec (a b : Int) (l : List Int) : asc (cutE a b l) ∧ ∀ x, x ∈ cutE a b l ↔ x = b ∨ (x ∈ l ∧ a < x ∧ x < b) := by
  suffices h : ∀ (l : List Int) (s : List Int), asc s → asc (l.foldl (fun l t => if a < t ∧ t < b then adL l t else l) s) ∧ ∀ x, x ∈ l.foldl (fun l t => if a < t ∧ t < b then adL l t else l) s ↔ x ∈ s ∨ (x ∈ l ∧ a < x ∧ x < b) by
    obtain ⟨h1, h2⟩ := h l [b] (List.pairwise_singleton _ _)
    refine ⟨h1, fun x => ?_⟩
    show x ∈ l.foldl _ [b] ↔ _
    rw [h2 x, List.mem_singleton]
  intro l
  induction l with
  | nil => intro s hs; exact ⟨hs, fun x => by simp⟩
  | cons t l ih =>
    intro s hs
    rw [List.foldl_cons]
    by_cases ht : a < t ∧ t < b
    · rw [if_pos ht]
      obtain ⟨a1, a2⟩ := adL_asc hs t
      obtain ⟨i1, i2⟩ := ih _ a1
      refine ⟨i1, fun x => ?_⟩
      rw [i2 x, a2 x, List.mem_cons]
      constructor
      · rintro ((rfl | h) | ⟨h, h2⟩)
        · exact .inr ⟨.inl rfl, ht⟩
        · exact .inl h
        · exact .inr ⟨.inr h, h2⟩
      · rintro (h | ⟨rfl | h, h2⟩)
        · exact .inl (.inr h)
        · exact .inl (.inl rfl)
        · exact .inr ⟨h, h2⟩
    · rw [if_neg ht]
      obtain ⟨i1, i2⟩ := ih _ hs
      refine ⟨i1, fun x => ?_⟩
      rw [i2 x, List.mem_cons]
      constructor
      · rintro (h | ⟨h, h2⟩)
        · exact .inl h
        · exact .inr ⟨.inr h, h2⟩
      · rintro (h | ⟨rfl | h, h2⟩)
        · exact .inl h
        · exact absurd h2 ht
        · exact .inr ⟨h, h2⟩
theorem cutE_length (a b : Int) (l : List Int) : (cutE a b l).length ≤ l.length + 1 := by
  suffices h : ∀ (l : List Int) (s : List Int), (l.foldl (fun l t => if a < t ∧ t < b then adL l t else l) s).length ≤ l.length + s.length by
    have := h l [b]
    exact this
  intro l
  induction l with
  | nil => intro s; simp
  | cons t l ih =>
    intro s
    rw [List.foldl_cons]
    by_cases ht : a < t ∧ t < b
    · rw [if_pos ht]
      have := ih (adL s t)
      have h2 : (adL s t).length ≤ s.length + 1 := adGo_length t s false
      rw [List.length_cons]
      omega
    · rw [if_neg ht]
      have := ih s
      rw [List.length_cons]
      omega
/-- The program's limits, sorted and compacted, are the reference's. -/
theorem cut_both (a b : Int) (l : List Int) : Lib.compact (([b] ++ l.filter fun t => decide (a < t ∧ t < b)).mergeSort fun x y => decide (x ≤ y)) = cutE a b l := by
  obtain ⟨c1, c2⟩ := compact_sort ([b] ++ l.filter fun t => decide (a < t ∧ t < b))
  obtain ⟨e1, e2⟩ := cutE_spec a b l
  refine asc_uniq c1 e1 fun x => ?_
  rw [c2 x, e2 x]
  simp
/-- What Cut answers. -/
def cutV (a b : Int) (l : List Int) : List Pd := if vl (a, b) then prs a (cutE a b l) else []
theorem prs_vl : ∀ {l : List Int} {a : Int}, asc l → 0 ≤ a → (∀ x ∈ l, a < x ∧ x ≤ 12622780800) → ∀ q ∈ prs a l, vl q = true := by
  intro l
  induction l with
  | nil => intro a _ _ _ q hq; cases hq
  | cons x l ih =>
    intro a hl ha hx q hq
    obtain ⟨h1, h2⟩ := List.pairwise_cons.1 hl
    have hxx := hx x (by simp)
    rcases List.mem_cons.1 hq with rfl | hq
    · exact vl_iff.2 ⟨ha, hxx.1, hxx.2⟩
    · exact ih h2 (by omega) (fun y hy => ⟨h1 y hy, (hx y (by simp [hy])).2⟩) q hq
theorem prs_len : ∀ (l : List Int) (a : Int), len (prs a l) = l.getLastD a - a := by
  intro l
  induction l with
  | nil => intro a; simp [prs, len]
  | cons x l ih =>
    intro a
    rw [prs, len_cons, ih x]
    have : (x :: l).getLastD a = l.getLastD x := by cases l <;> simp [List.getLastD]
    rw [this]
    simp
    omega
theorem last_max : ∀ {l : List Int} {b a : Int}, asc l → (∀ x ∈ l, x ≤ b) → b ∈ l → l.getLastD a = b := by
  intro l
  induction l with
  | nil => intro b a _ _ h; cases h
  | cons x l ih =>
    intro b a hl hx hb
    obtain ⟨h1, h2⟩ := List.pairwise_cons.1 hl
    have : (x :: l).getLastD a = l.getLastD x := by cases l <;> simp [List.getLastD]
    rw [this]
    rcases List.mem_cons.1 hb with rfl | hb
    · cases l with
      | nil => rfl
      | cons y l =>
        have := h1 y (by simp)
        have := hx y (by simp)
        omega
    · exact ih h2 (fun y hy => hx y (by simp [hy])) hb
theorem cutV_all {a b : Int} (h : vl (a, b) = true) (l : List Int) : (∀ q ∈ cutV a b l, vl q = true) ∧ len (cutV a b l) = b - a := by
  have hp := vl_iff.1 h
  simp only at hp
  obtain ⟨e1, e2⟩ := cutE_spec a b l
  have hx : ∀ x ∈ cutE a b l, a < x ∧ x ≤ b := by
    intro x hx
    rcases (e2 x).1 hx with rfl | ⟨_, h1, h2⟩ <;> omega
  unfold cutV
  rw [if_pos h]
  refine ⟨prs_vl e1 hp.1 fun x hx' => by have := hx x hx'; omega, ?_⟩
  rw [prs_len, last_max e1 (fun x h => (hx x h).2) ((e2 b).2 (.inl rfl))]
theorem cutV_length (a b : Int) (l : List Int) : (cutV a b l).length ≤ l.length + 1 := by
  unfold cutV
  split
  · rw [prs_length]; exact cutE_length a b l
  · simp

/-- The canonical list of the instants for which f holds of a and b. -/
def cmb (f : Bool → Bool → Bool) (A B : List Pd) : List Pd := chA (fun t => f (mem A t) (mem B t)) (lim (lim [] A) B)
theorem cmb_spec {f : Bool → Bool → Bool} (hf : f false false = false) (A B : List Pd) : can (cmb f A B) ∧ ∀ t, mem (cmb f A B) t = f (mem A t) (mem B t) := ref_all hf A B
theorem cmb_uniq {f : Bool → Bool → Bool} (hf : f false false = false) {A B l : List Pd} (h : can l) (hm : ∀ t, mem l t = f (mem A t) (mem B t)) : cmb f A B = l := by
  obtain ⟨a, b⟩ := cmb_spec hf A B
  exact can_uniq a h fun t => by rw [b t, hm t]
theorem cmb_length (f : Bool → Bool → Bool) (A B : List Pd) : (cmb f A B).length ≤ 2 * A.length + 2 * B.length := by
  have h1 := chN_length (fun t => f (mem A t) (mem B t)) (lim (lim [] A) B) ((lim (lim [] A) B).length - 1)
  have h2 := lim_length B (lim [] A)
  have h3 := lim_length A []
  simp at h3
  unfold cmb chA
  omega
theorem scn_cmb {f : Bool → Bool → Bool} (hf : f false false = false) {A B : List Pd} {E : List Eg} (hp : E.Perm (egs 0 A ++ egs 1 B)) (hs : srt E) : (scn f ⟨0, 0, 0, false, []⟩ E).out = cmb f A B := by
  obtain ⟨a, b⟩ := scn_all hf A B hp hs 0
  exact (cmb_uniq hf a b).symm
end Go.Proofs.Ytpbohnlfiaigjaa
