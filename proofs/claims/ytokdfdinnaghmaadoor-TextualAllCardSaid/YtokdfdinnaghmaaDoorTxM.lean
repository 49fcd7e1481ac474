/- Plain facts: the words of a record's line. -/
import Derived.Test.YtokdfdinnaghmaaDoorTxU
import Derived.Lib.ItoaNum
namespace Go.Proofs.YtokdfdinnaghmaaDoor.Tx
open Go Go.Lib

def dgB (x : UInt8) : Bool := decide (48 ≤ x.toNat) && decide (x.toNat ≤ 57)
/-- A number word. -/
def numW (s : List UInt8) : Bool := decide (1 ≤ s.length) && decide (s.length ≤ 15) && !(decide (s.head? = some 48) && decide (s.length ≠ 1)) && s.all dgB
/-- The number that digits denote. -/
def valW (s : List UInt8) : Nat := s.foldl (fun n x => n * 10 + (x.toNat - 48)) 0
theorem valW_snoc (s : List UInt8) (x : UInt8) : valW (s ++ [x]) = valW s * 10 + (x.toNat - 48) := by simp [valW]
theorem dec_small {u : Nat} (h : u < 10) : decDigits u = [UInt8.ofNat (48 + u)] := decDigits_one h
theorem dec_big {u : Nat} (h : ¬ u < 10) : decDigits u = decDigits (u / 10) ++ [UInt8.ofNat (48 + u % 10)] := by rw [decDigits, dif_neg h]
theorem u8_dg {k : Nat} (h : k < 10) : (UInt8.ofNat (48 + k)).toNat = 48 + k := by
  rw [UInt8.toNat_ofNat', Nat.mod_eq_of_lt (by omega)]
theorem valW_dec (u : Nat) : valW (decDigits u) = u := by
  induction u using Nat.strongRecOn with
  | ind u ih =>
    by_cases h : u < 10
    · rw [dec_small h]
      simp only [valW, List.foldl_cons, List.foldl_nil]
      rw [u8_dg h]
      omega
    · rw [dec_big h, valW_snoc, ih (u / 10) (by omega), u8_dg (Nat.mod_lt _ (by decide))]
      omega
theorem dec_all (u : Nat) : (decDigits u).all dgB = true := by
  induction u using Nat.strongRecOn with
  | ind u ih =>
    by_cases h : u < 10
    · rw [dec_small h]
      simp only [List.all_cons, List.all_nil, dgB]
      rw [u8_dg h]
      simp; omega
    · rw [dec_big h, List.all_append, ih (u / 10) (by omega)]
      simp only [List.all_cons, List.all_nil, dgB]
      rw [u8_dg (Nat.mod_lt _ (by decide))]
      simp; omega
theorem dec_head {u : Nat} (h : 0 < u) : ∃ x, (decDigits u).head? = some x ∧ x ≠ 48 := by
  induction u using Nat.strongRecOn with
  | ind u ih =>
    by_cases hs : u < 10
    · rw [dec_small hs]
      refine ⟨_, rfl, fun e => ?_⟩
      have := congrArg UInt8.toNat e
      rw [u8_dg hs] at this
      simp at this
      omega
    · obtain ⟨x, h1, h2⟩ := ih (u / 10) (by omega) (by omega)
      refine ⟨x, ?_, h2⟩
      rw [dec_big hs, List.head?_append, h1]
      rfl
theorem dec_len {u k : Nat} (h : u < 10 ^ (k + 1)) : (decDigits u).length ≤ k + 1 := by
  induction k generalizing u with
  | zero => rw [dec_small (by simpa using h)]; simp
  | succ k ih =>
    by_cases hs : u < 10
    · rw [dec_small hs]; simp
    · rw [dec_big hs, List.length_append]
      have h1 : u / 10 < 10 ^ (k + 1) := by
        rw [Nat.pow_succ] at h
        omega
      have := ih h1
      simp
      omega
theorem dec_pos (u : Nat) : 1 ≤ (decDigits u).length := by
  by_cases hs : u < 10
  · rw [dec_small hs]; simp
  · rw [dec_big hs, List.length_append]; simp
/-- The digits of a number are a number word. -/
theorem numW_dec {u : Nat} (h : u < 1000000000000000) : numW (decDigits u) = true := by
  have h1 := dec_len (u := u) (k := 14) h
  have h2 := dec_pos u
  simp only [numW, Bool.and_eq_true, decide_eq_true_eq, Bool.not_eq_true', Bool.and_eq_false_imp, decide_eq_false_iff_not, ne_eq]
  refine ⟨⟨⟨h2, h1⟩, fun hh => ?_⟩, dec_all u⟩
  by_cases h0 : u = 0
  · subst h0; rw [dec_small (by decide)]; simp
  · obtain ⟨x, e1, e2⟩ := dec_head (u := u) (by omega)
    rw [e1] at hh
    exact absurd (Option.some.inj hh) e2
theorem dg_ofNat {x : UInt8} (h : dgB x = true) : UInt8.ofNat (48 + (x.toNat - 48)) = x := by
  simp only [dgB, Bool.and_eq_true, decide_eq_true_eq] at h
  rw [show 48 + (x.toNat - 48) = x.toNat by omega]
  simp
theorem dec_val : ∀ (k : Nat) (s : List UInt8), s.length = k + 1 → s.all dgB = true → (s.head? = some 48 → s.length = 1) → decDigits (valW s) = s ∧ (1 < s.length → 0 < valW s)
  | 0, [x], _, hd, _ => by
    have hx : dgB x = true := by simpa using hd
    have hv : valW [x] = x.toNat - 48 := by simp [valW]
    have hx2 := hx
    simp only [dgB, Bool.and_eq_true, decide_eq_true_eq] at hx2
    rw [hv, dec_small (by omega), dg_ofNat hx]
    exact ⟨rfl, fun h => by simp at h⟩
  | k + 1, s, hl, hd, hh => by
    obtain ⟨u, x, rfl⟩ : ∃ u x, s = u ++ [x] := ⟨s.dropLast, s.getLast (by intro e; simp [e] at hl), (List.dropLast_concat_getLast _).symm⟩
    have hul : u.length = k + 1 := by simpa using hl
    rw [List.all_append, Bool.and_eq_true] at hd
    have hx : dgB x = true := by simpa using hd.2
    have hx2 := hx
    simp only [dgB, Bool.and_eq_true, decide_eq_true_eq] at hx2
    have hne : u.head? ≠ some 48 := fun e => by
      have : (u ++ [x]).head? = some 48 := by rw [List.head?_append, e]; rfl
      have h9 := hh this
      rw [hl] at h9
      omega
    obtain ⟨i1, i2⟩ := dec_val k u hul hd.1 (fun e => absurd e hne)
    have hpos : 0 < valW u := by
      by_cases h1 : 1 < u.length
      · exact i2 h1
      · obtain ⟨y, rfl⟩ : ∃ y, u = [y] := by
          match u, hul with
          | [y], _ => exact ⟨y, rfl⟩
          | _ :: _ :: _, h => exact absurd h (by simp at h1 ⊢)
        have hy : dgB y = true := by simpa using hd.1
        simp only [dgB, Bool.and_eq_true, decide_eq_true_eq] at hy
        have hy48 : y ≠ 48 := fun e => hne (by rw [e]; rfl)
        have : y.toNat ≠ 48 := fun e => hy48 (UInt8.toNat_inj.1 e)
        simp only [valW, List.foldl_cons, List.foldl_nil]
        omega
    rw [valW_snoc]
    refine ⟨?_, fun _ => by omega⟩
    rw [dec_big (by omega), show (valW u * 10 + (x.toNat - 48)) / 10 = valW u by omega, i1, show (valW u * 10 + (x.toNat - 48)) % 10 = x.toNat - 48 by omega, dg_ofNat hx]
/-- A number word is the digits of its number. -/
theorem numW_val {s : List UInt8} (h : numW s = true) : decDigits (valW s) = s := by
  simp only [numW, Bool.and_eq_true, decide_eq_true_eq, Bool.not_eq_true', Bool.and_eq_false_imp, decide_eq_false_iff_not, ne_eq] at h
  exact (dec_val (s.length - 1) s (by omega) h.2 (fun e => by have := h.1.2 e; omega)).1
end Go.Proofs.YtokdfdinnaghmaaDoor.Tx
