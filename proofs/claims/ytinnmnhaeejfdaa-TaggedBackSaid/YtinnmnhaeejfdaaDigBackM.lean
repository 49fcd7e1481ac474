/- Plain facts: a number is recovered from its packed form. -/
import Derived.Test.YtinnmnhaeejfdaaDigPackM
import Derived.Test.YtinnmnhaeejfdaaDigUnpM
namespace Go.Proofs.Ytinnmnhaeejfdaa
open Go.RowKit

/-- The first m packed bytes, as numbers and as bytes. -/
def pkZ (l : List UInt8) (m : Nat) : List Int := (List.range m).map (pk l)
def pkB (l : List UInt8) (m : Nat) : List UInt8 := (List.range m).map fun i => b8 (pk l i)
theorem pkZ_length (l : List UInt8) (m : Nat) : (pkZ l m).length = m := by simp [pkZ]
theorem pkB_length (l : List UInt8) (m : Nat) : (pkB l m).length = m := by simp [pkB]
theorem pkZ_at (l : List UInt8) (m k : Nat) (h : k < m) : (pkZ l m)[k]?.getD 0 = pk l k := by
  simp [pkZ, List.getElem?_map, List.getElem?_range h]

theorem dgt_bounds {c : UInt8} (h : dgt c = true) : 48 ≤ (c.toNat : Int) ∧ (c.toNat : Int) ≤ 57 := by simpa [dgt] using h
theorem at_dgt {l : List UInt8} (h : l.all dgt = true) {k : Nat} (hk : k < l.length) : 48 ≤ (l[k].toNat : Int) ∧ (l[k].toNat : Int) ≤ 57 :=
  dgt_bounds (List.all_eq_true.1 h _ (List.getElem_mem hk))
theorem pk_eq {l : List UInt8} {k : Nat} (hk : 2 * k < l.length) : pk l k = ((l[2 * k].toNat : Int) - 48) * 16 + (if h : 2 * k + 1 < l.length then (l[2 * k + 1].toNat : Int) - 48 else 15) := by
  have e0 : l.getD (2 * k) 0 = l[2 * k] := by simp [List.getD, List.getElem?_eq_getElem hk]
  unfold pk
  rw [e0]
  by_cases h : 2 * k + 1 < l.length
  · have e1 : l.getD (2 * k + 1) 0 = l[2 * k + 1] := by simp [List.getD, List.getElem?_eq_getElem h]
    rw [if_pos h, dif_pos h, e1]
  · rw [if_neg h, dif_neg h]
theorem pk_range {l : List UInt8} (hd : l.all dgt = true) {k : Nat} (hk : 2 * k < l.length) : 0 ≤ pk l k ∧ pk l k ≤ 255 := by
  have a := at_dgt hd hk
  rw [pk_eq hk]
  split
  · rename_i h
    have b := at_dgt hd h
    omega
  · omega
theorem b8_of (c : UInt8) : b8 (c.toNat : Int) = c := by simp [b8]

theorem unp_pk {l : List UInt8} (hd : l.all dgt = true) (m : Nat) (hm : m = (l.length + 1) / 2) : ∀ k, k ≤ m → unpTo (pkZ l m) m k = l.take (2 * k)
  | 0, _ => by simp [unpTo]
  | k + 1, h => by
    have ih := unp_pk hd m hm k (by omega)
    have hk : 2 * k < l.length := by omega
    have hz := pkZ_at l m k (by omega)
    have hp := pk_eq hk
    have a := at_dgt hd hk
    by_cases h2 : 2 * k + 1 < l.length
    · have b := at_dgt hd h2
      rw [dif_pos h2] at hp
      have hlow : noLow (pk l k) m k = false := by
        have : ¬ pk l k % 16 = 15 := by rw [hp]; omega
        simp [noLow, this]
      rw [unpTo_two hz hlow, ih]
      have e1 : 48 + pk l k / 16 = (l[2 * k].toNat : Int) := by rw [hp]; omega
      have e2 : 48 + pk l k % 16 = (l[2 * k + 1].toNat : Int) := by rw [hp]; omega
      rw [e1, e2, b8_of, b8_of, show 2 * (k + 1) = 2 * k + 1 + 1 from by omega, List.take_succ_eq_append_getElem h2, List.take_succ_eq_append_getElem hk]
    · rw [dif_neg h2] at hp
      have hlow : noLow (pk l k) m k = true := by
        have : pk l k % 16 = 15 := by rw [hp]; omega
        simp [noLow, this]; omega
      rw [unpTo_one hz hlow, ih]
      have e1 : 48 + pk l k / 16 = (l[2 * k].toNat : Int) := by rw [hp]; omega
      rw [e1, b8_of, show 2 * (k + 1) = 2 * k + 1 + 1 from by omega, List.take_of_length_le (l := l) (i := 2 * k + 1 + 1) (by omega)]
      conv => rhs; rw [← List.take_of_length_le (l := l) (i := 2 * k + 1) (by omega)]
      rw [List.take_succ_eq_append_getElem hk]
theorem unp_back {l : List UInt8} (h : numB l = true) : unpL (pkZ l ((l.length + 1) / 2)) = l ∧ unpE (pkZ l ((l.length + 1) / 2)) = 0 := by
  have hd : l.all dgt = true := by simp only [numB, Bool.and_eq_true] at h; exact h.2
  have hl : l.length ≤ 15 := by simp only [numB, Bool.and_eq_true, decide_eq_true_eq] at h; exact h.1.2
  have e : unpTo (pkZ l ((l.length + 1) / 2)) ((l.length + 1) / 2) ((l.length + 1) / 2) = l := by
    rw [unp_pk hd _ rfl _ (Nat.le_refl _), List.take_of_length_le (by omega)]
  have := unp_good (zs := pkZ l ((l.length + 1) / 2)) (by rw [pkZ_length]; omega) (by rw [pkZ_length, e]; exact h)
  rw [pkZ_length, e] at this
  exact this
theorem U_pkB {l : List UInt8} (hd : l.all dgt = true) (m : Nat) (hm : 2 * m ≤ l.length + 1) : U (pkB l m) = pkTo l m := by
  simp only [U, pkB, pkTo, List.map_map]
  apply List.map_congr_left
  intro i hi
  have hi' : i < m := List.mem_range.1 hi
  have := pk_range hd (k := i) (by omega)
  simp only [Function.comp, b8_toNat this.1 this.2]
theorem pkZ_range {l : List UInt8} (hd : l.all dgt = true) (m : Nat) (hm : 2 * m ≤ l.length + 1) : ∀ z ∈ pkZ l m, 0 ≤ z ∧ z ≤ 255 := by
  intro z hz
  simp only [pkZ, List.mem_map, List.mem_range] at hz
  obtain ⟨i, hi, rfl⟩ := hz
  exact pk_range hd (by omega)
/-- What is owned reads as bytes. -/
theorem bts_own {w : World} {base e : Nat} {g m cap : Nat} {l : List UInt8} (hd : l.all dgt = true) (hm : 2 * m ≤ l.length + 1)
    (h : w.ownsRow base e 1 (.slice (some ⟨g, 0, none⟩) m cap) m (pkTo l m)) (hg : g < w.heap.size) : Bts w (some ⟨g, 0, none⟩) m (pkZ l m) := by
  refine ⟨pkZ_length _ _, pkZ_range hd m hm, fun k hk => ⟨g, 0, rfl, hg, ?_⟩⟩
  rw [Nat.zero_add, World.ownsRow.cellAt h k (by omega), pkZ_at l m k hk]
  simp [pkTo, List.getElem?_map, List.getElem?_range hk]
end Go.Proofs.Ytinnmnhaeejfdaa
