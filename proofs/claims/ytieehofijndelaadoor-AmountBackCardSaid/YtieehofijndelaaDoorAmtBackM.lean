/- Plain facts: an amount is parsed from its text. -/
import Derived.Test.YtieehofijndelaaDoorAmtNumM
import Derived.Test.YtieehofijndelaaDoorAmtRefM
import Derived.Test.YtieehofijndelaaDoorAmtMag
namespace Go.Proofs.YtieehofijndelaaDoor
open Go.RowKit

theorem b8_dgt {d : Int} (h : 0 ≤ d ∧ d ≤ 9) : dgt (b8 (48 + d)) = true := by
  have := b8_toNat (i := 48 + d) (by omega) (by omega)
  exact dgt_mk (by omega) (by omega)
theorem b8_dv {d : Int} (h : 0 ≤ d ∧ d ≤ 9) : dv (b8 (48 + d)) = d := by
  have := b8_toNat (i := 48 + d) (by omega) (by omega)
  unfold dv; omega
theorem lastD_dgt : ∀ (k : Nat) (n : Int), (lastD n k).all dgt = true
  | 0, _ => rfl
  | k + 1, n => by
    simp only [lastD, List.all_append, lastD_dgt k (n / 10), Bool.true_and, List.all_cons, List.all_nil, Bool.and_true]
    exact b8_dgt (by omega)
theorem lastD_val : ∀ (k : Nat) (n : Int), valL (lastD n k) = n % (10 : Int) ^ k
  | 0, n => by simp [lastD, valL]
  | k + 1, n => by
    simp only [lastD]
    rw [valL_snoc, lastD_val k (n / 10), b8_dv (by omega)]
    have e : n % (10 : Int) ^ (k + 1) = n - 10 ^ (k + 1) * (n / 10 ^ (k + 1)) := Int.emod_def _ _
    have e2 : (n / 10) % (10 : Int) ^ k = n / 10 - 10 ^ k * (n / 10 / 10 ^ k) := Int.emod_def _ _
    rw [e, e2, div_pow, Int.pow_succ]
    generalize n / 10 / (10 : Int) ^ k = q
    have e3 : (10 : Int) ^ k * 10 * q = 10 * (10 ^ k * q) := by rw [Int.mul_comm ((10 : Int) ^ k) 10, Int.mul_assoc]
    rw [e3]
    generalize (10 : Int) ^ k * q = r
    omega

theorem text_parse {a : Int} {f : Nat} (h1 : -9223372036854775808 ≤ a) (h2 : a ≤ 9223372036854775807) (hf : Lead (mag a) f) :
    synB (textL a (mag a) f) = true ∧ valL (digL (textL a (mag a) f)) = mag a ∧ (posL (textL a (mag a) f) = textL a (mag a) f ↔ ¬ a < 0) := by
  have hm0 : 0 ≤ mag a ∧ mag a ≤ 9223372036854775808 := by unfold mag; split <;> omega
  have hmz : a < 0 → mag a ≠ 0 := by intro h; unfold mag; rw [if_pos h]; omega
  obtain ⟨m, hm⟩ : ∃ m, mag a = m := ⟨_, rfl⟩
  rw [hm] at hf hm0 hmz ⊢
  have hf14 := hf.1
  have hq := dgs_quo m f hf14
  have hr := dgs_fra m
  have hql : (dgs m f 15).length = 15 - f := dgs_length _ _ _
  have hrl : (dgs m 15 19).length = 4 := dgs_length _ _ _
  obtain ⟨t, ht⟩ : ∃ t, dgs m f 15 ++ [46] ++ dgs m 15 19 = t := ⟨_, rfl⟩
  have htl : t.length = (15 - f) + 5 := by rw [← ht, List.length_append, List.length_append, hql, hrl]; rfl
  have hhead : t.head? = some (b8 (48 + dg m f)) := by
    rw [← ht]
    unfold dgs
    have e : 15 - f = (14 - f) + 1 := by omega
    rw [e, List.range_succ_eq_map]
    simp
  have hdr := dg_range m f
  have hh45 : Lib.hasPrefix t [45] = false := by
    cases t with
    | nil => simp at hhead
    | cons x r =>
      simp at hhead
      have := b8_toNat (i := 48 + dg m f) (by omega) (by omega)
      have hx : x ≠ 45 := by
        intro e
        rw [← hhead, e] at this
        have : (45 : UInt8).toNat = 45 := rfl
        omega
      have hb : ((45 : UInt8) == x) = false := beq_eq_false_iff_ne.2 (fun e => hx e.symm)
      show (((45 : UInt8) == x) && List.isPrefixOf [] r) = false
      rw [hb]; rfl
  have htext : textL a m f = (if a < 0 then [45] else []) ++ t := by unfold textL; rw [ht]
  have hpos : posL (textL a m f) = t := by
    rw [htext]
    by_cases hneg : a < 0
    · rw [if_pos hneg]; simp [posL, Lib.trimPrefix, Lib.hasPrefix]
    · rw [if_neg hneg]; simp [posL, Lib.trimPrefix, hh45]
  have hpre : refPre (posL (textL a m f)) := by
    rw [hpos]
    refine ⟨by omega, ?_, ?_⟩
    · rw [htl, Nat.add_sub_cancel, ← ht, List.append_assoc, List.getElem?_append_right (by omega), hql, Nat.sub_self]; rfl
    · rintro ⟨e, hlt⟩
      rw [hhead] at e
      have h48 : b8 (48 + dg m f) = 48 := by simpa using e
      have := b8_toNat (i := 48 + dg m f) (by omega) (by omega)
      rw [h48] at this
      have h49 : (48 : UInt8).toNat = 48 := rfl
      have hz : dg m f = 0 := by omega
      exact hf.2.2 (by omega) hz
  have hdig : refDig (posL (textL a m f)) = lastD m (19 - f) := by
    rw [hpos]
    unfold refDig
    rw [htl, Nat.add_sub_cancel, show 15 - f + 5 - 4 = (15 - f) + 1 from by omega, ← ht, List.append_assoc, List.take_left' hql, List.drop_append, hql]
    rw [List.drop_of_length_le (by omega), List.nil_append, show 15 - f + 1 - (15 - f) = 1 from by omega]
    show dgs m f 15 ++ dgs m 15 19 = _
    rw [hq, hr, show 19 - f = (15 - f) + 4 from by omega, lastD_add (15 - f) 4 m]
    rfl
  have hall : (refDig (posL (textL a m f))).all dgt = true := by rw [hdig]; exact lastD_dgt _ _
  have hval : valL (refDig (posL (textL a m f))) = m := by
    rw [hdig, lastD_val, Int.emod_def, lead_zero hm0.1 (by omega) hf f (Nat.le_refl _)]
    omega
  have hps := pre_syn hpre hall
  have hmin := minus_zero hpre hall
  have hneg : Lib.hasPrefix (textL a m f) [45] = decide (a < 0) := by
    rw [htext]
    by_cases hneg : a < 0
    · rw [if_pos hneg, decide_eq_true hneg]; simp [Lib.hasPrefix]
    · rw [if_neg hneg, decide_eq_false hneg, List.nil_append]; exact hh45
  have hsyn : synB (textL a m f) = true := by
    unfold synB
    rw [hps.1, hps.2.1, hmin, hval, hneg]
    by_cases hneg : a < 0
    · rw [decide_eq_false (hmz hneg)]; simp
    · rw [decide_eq_false hneg]; simp
  refine ⟨hsyn, by rw [hps.2.2]; exact hval, ?_⟩
  rw [hpos, htext]
  by_cases hneg : a < 0
  · rw [if_pos hneg]
    refine ⟨fun h => ?_, fun h => absurd hneg h⟩
    have := congrArg List.length h
    simp at this
  · rw [if_neg hneg]; simp [hneg]
theorem text_yes {a : Int} {f : Nat} (h : okA a = true) (hf : Lead (mag a) f) : psV (textL a (mag a) f) = a ∧ psE (textL a (mag a) f) = 0 := by
  have hb := okA_iff.1 h
  obtain ⟨h1, h2, h3⟩ := text_parse (by omega) (by omega) hf
  have hm : mag a ≤ 1125899906842624 := by unfold mag; split <;> omega
  by_cases hneg : a < 0
  · have := ps_neg h1 (by rw [h2]; exact hm) (fun e => h3.1 e hneg)
    rw [this.1, this.2, h2, mag_neg hneg]
    omega
  · have := ps_pos h1 (by rw [h2]; exact hm) (h3.2 hneg)
    rw [this.1, this.2, h2, mag_pos hneg]
    exact ⟨rfl, rfl⟩
theorem text_no {a : Int} {f : Nat} (h : okA a = false) (h1 : -9223372036854775808 ≤ a) (h2 : a ≤ 9223372036854775807) (hf : Lead (mag a) f) : psV (textL a (mag a) f) = 0 ∧ psE (textL a (mag a) f) = 6 := by
  have hb := okA_no.1 h
  obtain ⟨g1, g2, g3⟩ := text_parse h1 h2 hf
  have hm : 1125899906842624 < mag a := by unfold mag; split <;> omega
  exact ps_big g1 (by rw [g2]; exact hm)
end Go.Proofs.YtieehofijndelaaDoor
