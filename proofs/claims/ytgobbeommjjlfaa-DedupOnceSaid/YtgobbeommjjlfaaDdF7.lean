/- Records that come in two batches or in one; what was seen before a record. -/
import Derived.Test.YtgobbeommjjlfaaDdF5
namespace Go.Proofs.Ytgobbeommjjlfaa
open Go.RowKit

theorem getD_fst {D1 D2 : List Rc} {k : Nat} (h : k < D1.length) : (D1 ++ D2).getD k Va.rc0 = D1.getD k Va.rc0 := by
  simp [List.getD_eq_getElem?_getD, List.getElem?_append_left h]
theorem getD_snd {D1 D2 : List Rc} (j : Nat) : (D1 ++ D2).getD (D1.length + j) Va.rc0 = D2.getD j Va.rc0 := by
  simp [List.getD_eq_getElem?_getD, List.getElem?_append_right]
theorem now_step (l : List Rg) (D : List Rc) (k : Nat) : nowL l D (k + 1) = if rfs (nowL l D k) (D.getD k Va.rc0).s0 (D.getD k Va.rc0).s1 = 0 then adL (D.getD k Va.rc0).s0 (D.getD k Va.rc0).s1 (nowL l D k) else nowL l D k := rfl
theorem now_fst {l : List Rg} {D1 D2 : List Rc} : ∀ {k}, k ≤ D1.length → nowL l (D1 ++ D2) k = nowL l D1 k
  | 0, _ => rfl
  | k + 1, h => by rw [now_step, now_step, getD_fst (by omega), now_fst (by omega)]
theorem now_snd {l : List Rg} {D1 D2 : List Rc} : ∀ j, nowL l (D1 ++ D2) (D1.length + j) = nowL (nowL l D1 D1.length) D2 j
  | 0 => now_fst (Nat.le_refl _)
  | j + 1 => by rw [← Nat.add_assoc, now_step, now_step, getD_snd, now_snd j]
theorem flt_fst {l : List Rg} {D1 D2 : List Rc} {k : Nat} (h : k < D1.length) : fltE l (D1 ++ D2) k = fltE l D1 k := by
  unfold fltE; rw [getD_fst h, now_fst (by omega)]
theorem flt_snd {l : List Rg} {D1 D2 : List Rc} (j : Nat) : fltE l (D1 ++ D2) (D1.length + j) = fltE (nowL l D1 D1.length) D2 j := by
  unfold fltE; rw [getD_snd, now_snd]
theorem pas_fst {l : List Rg} {D1 D2 : List Rc} : ∀ {k}, k ≤ D1.length → Va.pasN (D1 ++ D2) (fltE l (D1 ++ D2)) k = Va.pasN D1 (fltE l D1) k
  | 0, _ => rfl
  | k + 1, h => by
    by_cases he : fltE l D1 k = 0
    · rw [Va.pas_yes he, Va.pas_yes ((flt_fst (by omega)).trans he), getD_fst (by omega), pas_fst (by omega)]
    · rw [Va.pas_no he, Va.pas_no (fun h2 => he ((flt_fst (by omega)).symm.trans h2)), pas_fst (by omega)]
theorem pas_snd {l : List Rg} {D1 D2 : List Rc} : ∀ j, Va.pasN (D1 ++ D2) (fltE l (D1 ++ D2)) (D1.length + j) = Va.pasN D1 (fltE l D1) D1.length ++ Va.pasN D2 (fltE (nowL l D1 D1.length) D2) j
  | 0 => by rw [show Va.pasN D2 (fltE (nowL l D1 D1.length) D2) 0 = [] from rfl, List.append_nil]; exact pas_fst (Nat.le_refl _)
  | j + 1 => by
    rw [← Nat.add_assoc]
    by_cases he : fltE (nowL l D1 D1.length) D2 j = 0
    · rw [Va.pas_yes he, Va.pas_yes ((flt_snd j).trans he), getD_snd, pas_snd j, List.append_assoc]
    · rw [Va.pas_no he, Va.pas_no (fun h2 => he ((flt_snd j).symm.trans h2)), pas_snd j]
/-- Whether one of the first records has an identity. -/
def agI (D : List Rc) (s x : Int) : Nat → Bool
  | 0 => false
  | j + 1 => agI D s x j || (decide ((D.getD j Va.rc0).s0 = s) && decide ((D.getD j Va.rc0).s1 = x))
theorem now_any {l : List Rg} {D : List Rc} (hl : Can l) {s x : Int} (hi : idB s x = true) : ∀ k, hasL (nowL l D k) s x = (hasL l s x || agI D s x k)
  | 0 => by simp [nowL, agI]
  | k + 1 => by
    rw [now_has hl]
    unfold agI
    by_cases h : fltE l D k = 0
    · rw [now_any hl hi k, decide_eq_true h, Bool.true_and, Bool.or_assoc]
      congr 3 <;> (congr 1; exact propext ⟨Eq.symm, Eq.symm⟩)
    · rw [decide_eq_false h, Bool.false_and, Bool.or_false]
      by_cases h2 : (D.getD k Va.rc0).s0 = s ∧ (D.getD k Va.rc0).s1 = x
      · have h3 : hasL (nowL l D k) s x = true := by
          unfold fltE rfs at h
          rw [h2.1, h2.2, if_pos hi] at h
          cases h4 : hasL (nowL l D k) s x with
          | true => rfl
          | false => rw [h4] at h; simp at h
        rw [h3, decide_eq_true h2.1, decide_eq_true h2.2]
        simp
      · rw [now_any hl hi k]
        have : (decide ((D.getD k Va.rc0).s0 = s) && decide ((D.getD k Va.rc0).s1 = x)) = false := by
          rw [← Bool.decide_and]; exact decide_eq_false h2
        rw [this, Bool.or_false]
/-- Whether a record is refused, as the law finds it. -/
def agN (l : List Rg) (D : List Rc) (s x : Int) (j : Nat) : Bool := (hasL l s x || !idB s x) || agI D s x j
theorem agN_flt {l : List Rg} {D : List Rc} (hl : Can l) {i : Nat} {s x : Int} (hs : (D.getD i Va.rc0).s0 = s) (hx : (D.getD i Va.rc0).s1 = x) : agN l D s x i = !decide (fltE l D i = 0) := by
  unfold agN fltE
  rw [hs, hx]
  cases hi : idB s x with
  | false => unfold rfs; rw [hi]; simp
  | true =>
    have h := now_any (D := D) hl hi i
    unfold rfs
    rw [if_pos hi, h]
    cases hasL l s x <;> cases agI D s x i <;> simp
theorem agN_step {l : List Rg} {D : List Rc} {s x : Int} {j : Nat} : agN l D s x (j + 1) = (agN l D s x j || (decide ((D.getD j Va.rc0).s0 = s) && decide ((D.getD j Va.rc0).s1 = x))) := by
  unfold agN; rw [agI, Bool.or_assoc, Bool.or_assoc, Bool.or_assoc]
theorem pas_more {D : List Rc} {E : Nat → Int} {k : Nat} : ∀ {m}, k ≤ m → ∃ t, Va.pasN D E m = Va.pasN D E k ++ t
  | 0, h => ⟨[], by obtain rfl : k = 0 := by omega
                    simp⟩
  | m + 1, h => by
    rcases Nat.lt_or_ge m k with h1 | h1
    · obtain rfl : k = m + 1 := by omega
      exact ⟨[], by simp⟩
    · obtain ⟨t, ht⟩ := pas_more (D := D) (E := E) h1
      by_cases he : E m = 0
      · exact ⟨t ++ [_], by rw [Va.pas_yes he, ht, List.append_assoc]⟩
      · exact ⟨t, by rw [Va.pas_no he, ht]⟩
theorem pas_there {D : List Rc} {E : Nat → Int} {i m : Nat} {r : Rc} (hi : i < m) (he : E i = 0) (hr : D.getD i Va.rc0 = r) :
    (Va.pasN D E i).length < (Va.pasN D E m).length ∧ (Va.pasN D E m).getD (Va.pasN D E i).length Va.rc0 = r ∧ (Va.pasN D E (i + 1)).length = (Va.pasN D E i).length + 1 := by
  obtain ⟨t, ht⟩ := pas_more (D := D) (E := E) (show i + 1 ≤ m from hi)
  rw [Va.pas_yes he, hr] at ht
  rw [ht, Va.pas_yes he]
  refine ⟨by simp, ?_, by simp⟩
  simp [List.getD]
end Go.Proofs.Ytgobbeommjjlfaa
