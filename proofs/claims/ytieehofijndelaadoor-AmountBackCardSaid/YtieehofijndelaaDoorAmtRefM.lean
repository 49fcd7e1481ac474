/- Plain facts: the reference's reading of a text. -/
import Derived.Test.YtieehofijndelaaDoorAmtValM
namespace Go.Proofs.YtieehofijndelaaDoor
open Go.RowKit

theorem index_split (c : UInt8) : ∀ (l : List UInt8) (i : Nat), Lib.indexByte l c = (i : Int) → l = l.take i ++ c :: l.drop (i + 1)
  | [], i, h => by simp [Lib.indexByte] at h
  | b :: l, i, h => by
    simp only [Lib.indexByte] at h
    by_cases hb : (b == c) = true
    · rw [hb] at h
      have e : i = 0 := by simp at h; omega
      subst e
      have := eq_of_beq hb
      simp [this]
    · have hb' : (b == c) = false := by simpa using hb
      rw [hb'] at h
      simp only [Bool.false_eq_true, if_false] at h
      have hr := indexByte_lt c l
      by_cases h1 : Lib.indexByte l c = -1
      · rw [h1] at h; simp at h
      · have h2 : (Lib.indexByte l c == -1) = false := by simpa using h1
        rw [h2] at h
        simp only [Bool.false_eq_true, if_false] at h
        match i, h with
        | 0, h => omega
        | i + 1, h =>
          have := index_split c l i (by omega)
          simp only [List.take_succ_cons, List.drop_succ_cons, List.cons_append]
          rw [← this]
theorem index_of (c : UInt8) (b : List UInt8) : ∀ a : List UInt8, c ∉ a → Lib.indexByte (a ++ c :: b) c = (a.length : Int)
  | [], _ => by simp [Lib.indexByte]
  | x :: a, h => by
    have h1 : (x == c) = false := by
      simp only [List.mem_cons, not_or] at h
      simpa using fun e : x = c => h.1 e.symm
    have ih := index_of c b a (fun hm => h (List.mem_cons_of_mem _ hm))
    simp only [List.cons_append, Lib.indexByte, h1, ih]
    have : ((a.length : Int) == -1) = false := by simp
    rw [this]
    simp
theorem cut_split {t : List UInt8} {c : UInt8} (h : cutB t c ≠ []) : t = cutA t c ++ c :: cutB t c := by
  unfold cutB cutA at *
  by_cases h0 : 0 ≤ Lib.indexByte t c
  · rw [if_pos h0] at h ⊢
    rw [if_pos h0]
    obtain ⟨i, hi⟩ := Int.eq_ofNat_of_zero_le h0
    have := index_split c t i hi
    rw [hi]
    exact this
  · rw [if_neg h0] at h; exact absurd rfl h
theorem cut_of {a b : List UInt8} {c : UInt8} (h : c ∉ a) : cutA (a ++ c :: b) c = a ∧ cutB (a ++ c :: b) c = b := by
  unfold cutA cutB
  rw [index_of c b a h]
  simp
theorem dgt_not_point {l : List UInt8} (h : l.all dgt = true) : (46 : UInt8) ∉ l := by
  intro hm
  have := List.all_eq_true.1 h _ hm
  simp [dgt] at this

/-- The digits of a text of the reference: all but the fifth byte from its end. -/
def refDig (t : List UInt8) : List UInt8 := t.take (t.length - 5) ++ t.drop (t.length - 4)
/-- What the reference asks first. -/
def refPre (t : List UInt8) : Prop := 6 ≤ t.length ∧ t[t.length - 5]? = some 46 ∧ ¬ (t.head? = some 48 ∧ 6 < t.length)
theorem syn_split {l : List UInt8} (h : synB l = true) : posL l = cutA (posL l) 46 ++ 46 :: cutB (posL l) 46 ∧ (cutB (posL l) 46).length = 4 ∧ cutA (posL l) 46 ≠ [] := by
  have h1 := syn_digits h
  refine ⟨cut_split h1.2.1, ?_, ?_⟩
  · simp only [synB, fraB, Bool.and_eq_true, decide_eq_true_eq] at h
    exact h.1.2.1
  · intro e
    have h4 : (cutB (posL l) 46).length = 4 := by
      simp only [synB, fraB, Bool.and_eq_true, decide_eq_true_eq] at h
      exact h.1.2.1
    have := h1.2.2.1
    unfold digL at this
    rw [e, List.nil_append] at this
    omega
theorem syn_pre {l : List UInt8} (h : synB l = true) : refPre (posL l) ∧ digL l = refDig (posL l) := by
  obtain ⟨h1, h2, h3⟩ := syn_split h
  have hd := syn_digits h
  have hq := List.length_pos_iff.2 h3
  have hq' : quoB (cutA (posL l) 46) = true := by simp only [synB, Bool.and_eq_true] at h; exact h.1.1
  generalize hq0 : cutA (posL l) 46 = q at *
  generalize hf0 : cutB (posL l) 46 = f at *
  have hlen : (posL l).length = q.length + 5 := by rw [h1, List.length_append, List.length_cons, h2]
  refine ⟨⟨by omega, ?_, ?_⟩, ?_⟩
  · rw [hlen, Nat.add_sub_cancel, h1, List.getElem?_append_right (Nat.le_refl _), Nat.sub_self]; rfl
  · rintro ⟨e, hlt⟩
    simp only [quoB, Bool.or_eq_true, Bool.and_eq_true] at hq'
    rcases hq' with hq' | ⟨_, hq'⟩
    · rw [eq_of_beq hq'] at hlen
      simp at hlen; omega
    · rw [h1] at e
      cases q with
      | nil => exact h3 rfl
      | cons a r => simp at e; simp [e] at hq'
  · unfold digL refDig
    rw [hq0, hf0, hlen]
    have e1 : q.length + 5 - 5 = q.length := by omega
    have e2 : q.length + 5 - 4 = q.length + 1 := by omega
    rw [e1, e2, h1, List.take_left]
    simp [List.drop_append]
/-- The other way: what the reference finds good is good. -/
theorem pre_syn {l : List UInt8} (h : refPre (posL l)) (hd : (refDig (posL l)).all dgt = true) :
    quoB (cutA (posL l) 46) = true ∧ fraB (cutB (posL l) 46) = true ∧ digL l = refDig (posL l) := by
  obtain ⟨h1, h2, h3⟩ := h
  generalize ht : posL l = t at *
  obtain ⟨p, hp⟩ : ∃ p, t.length - 5 = p := ⟨_, rfl⟩
  have hlen : t.length = p + 5 := by omega
  rw [hp] at h2
  have hpl : p < t.length := by omega
  have hsplit : t = t.take p ++ 46 :: t.drop (p + 1) := by
    rw [List.getElem?_eq_getElem hpl] at h2
    have h2' : t[p] = 46 := by simpa using h2
    rw [← h2', ← List.drop_eq_getElem_cons hpl, List.take_append_drop]
  have hdig : refDig t = t.take p ++ t.drop (p + 1) := by unfold refDig; rw [hp, show t.length - 4 = p + 1 from by omega]
  rw [hdig, List.all_append, Bool.and_eq_true] at hd
  have hcut := cut_of (b := t.drop (p + 1)) (dgt_not_point hd.1)
  rw [← hsplit] at hcut
  have hfl : (t.drop (p + 1)).length = 4 := by rw [List.length_drop]; omega
  have hql : (t.take p).length = p := by rw [List.length_take]; omega
  refine ⟨?_, ?_, ?_⟩
  · rw [hcut.1]
    simp only [quoB, allD, hd.1, Bool.true_and, Bool.or_eq_true, Bool.and_eq_true]
    have hne : t.take p ≠ [] := by intro e; rw [e] at hql; simp at hql; omega
    by_cases h48 : t.head? = some 48
    · have hp1 : p = 1 := by
        have : ¬ 6 < t.length := fun h => h3 ⟨h48, h⟩
        omega
      left
      subst hp1
      cases t with
      | nil => simp at h48
      | cons a r => simp at h48; simp [h48]
    · right
      refine ⟨?_, ?_⟩
      · cases hq : t.take p with
        | nil => exact absurd hq hne
        | cons => rfl
      · have : (t.take p).head? = t.head? := by
          cases t with
          | nil => simp
          | cons a r =>
            match p, hlen, hne with
            | 0, _, hne => exact absurd rfl hne
            | p + 1, _, _ => simp
        rw [this]
        simpa using h48
  · rw [hcut.2]; simp only [fraB, allD, hd.2, hfl]; rfl
  · unfold digL; rw [ht, hcut.1, hcut.2, hdig]
/-- Minus zero, and no other text. -/
theorem posL_cases (l : List UInt8) : (Lib.hasPrefix l [45] = true ∧ l = 45 :: posL l) ∨ (Lib.hasPrefix l [45] = false ∧ posL l = l) := by
  unfold posL
  cases h : Lib.hasPrefix l [45] with
  | false => right; simp [Lib.trimPrefix, h]
  | true =>
    left
    refine ⟨rfl, ?_⟩
    rw [Lib.trimPrefix, h]
    cases l with
    | nil => simp [Lib.hasPrefix] at h
    | cons a r =>
      simp [Lib.hasPrefix] at h
      simp [h]
theorem valL_zero : ∀ (l : List UInt8), l.all dgt = true → valL l = 0 → ∀ c ∈ l, c = 48 := by
  refine rev_ind (by simp) ?_
  intro l c ih h hv x hx
  rw [all_snoc, Bool.and_eq_true] at h
  rw [valL_snoc] at hv
  have h1 := valL_nonneg l h.1
  have h2 := dv_range h.2
  rcases List.mem_append.1 hx with hx | hx
  · exact ih h.1 (by omega) x hx
  · simp at hx
    subst hx
    apply UInt8.toNat_inj.1
    have h3 : dv x = 0 := by omega
    unfold dv at h3
    have : (48 : UInt8).toNat = 48 := rfl
    omega
theorem minus_zero {l : List UInt8} (h : refPre (posL l)) (hd : (refDig (posL l)).all dgt = true) :
    (l == [45, 48, 46, 48, 48, 48, 48]) = (Lib.hasPrefix l [45] && decide (valL (refDig (posL l)) = 0)) := by
  rw [Bool.eq_iff_iff, beq_iff_eq, Bool.and_eq_true, decide_eq_true_eq]
  constructor
  · rintro rfl; exact ⟨rfl, rfl⟩
  · rintro ⟨h1, h2⟩
    have hl : l = 45 :: posL l := by
      rcases posL_cases l with ⟨_, h⟩ | ⟨h, _⟩
      · exact h
      · rw [h1] at h; cases h
    have hz := valL_zero _ hd h2
    obtain ⟨h3, h4, h5⟩ := h
    generalize posL l = t at *
    have hlen : t.length = 6 := by
      rcases Nat.lt_or_ge 6 t.length with hlt | hge
      · exfalso
        apply h5
        refine ⟨?_, hlt⟩
        cases t with
        | nil => simp at h3
        | cons a r =>
          have : a ∈ refDig (a :: r) := by
            unfold refDig
            apply List.mem_append_left
            have e : (a :: r).length - 5 = ((a :: r).length - 6) + 1 := by omega
            rw [e]; simp
          simp [hz a this]
      · omega
    match t, hlen with
    | [a, b, c, d, e, f], _ =>
      simp at h4
      have ha := hz a (by simp [refDig])
      have hc := hz c (by simp [refDig])
      have hd' := hz d (by simp [refDig])
      have he := hz e (by simp [refDig])
      have hf := hz f (by simp [refDig])
      rw [hl, ha, h4, hc, hd', he, hf]
end Go.Proofs.YtieehofijndelaaDoor
