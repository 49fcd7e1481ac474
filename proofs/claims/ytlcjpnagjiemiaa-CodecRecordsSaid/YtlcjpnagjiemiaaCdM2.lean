/- Pure mathematics: lengths, texts, lists, booleans and records are read. -/
import Derived.Test.YtlcjpnagjiemiaaCdM
import Derived.Test.YtlcjpnagjiemiaaCdP
namespace Go.Proofs.Ytlcjpnagjiemiaa
open Go.RowKit

theorem dec_len2 : ∀ (b : List Int) (i acc : Nat), (dec i acc b).2.2.length ≤ b.length
  | [], _, _ => by simp [dec]
  | x :: t, i, acc => by
    simp only [dec]
    split
    · simp
    · split
      · have := dec_len2 t (i + 1) (acc + (x % 128).toNat * 128 ^ i); simp; omega
      · simp
theorem numR_len2 (s : St) : (numR s).2.1.length ≤ s.1.length := by
  unfold numR
  split
  · split
    · exact dec_len2 _ _ _
    · simp
  · simp
/-- A length. -/
def lenR (s : St) : Int × St := if (numR s).1 < 0 then ((numR s).1, ([], 1)) else if 1048576 < (numR s).1 then ((numR s).1, ([], 5)) else numR s
theorem lenR_len (s : St) : (lenR s).2.1.length ≤ s.1.length := by
  unfold lenR; split
  · simp
  · split
    · simp
    · exact numR_len2 s
theorem lenR_ok {s : St} (h : (lenR s).2.2 = 0) : 0 ≤ (lenR s).1 ∧ (lenR s).1 ≤ 1048576 ∧ lenR s = numR s := by
  unfold lenR at *
  split
  · rename_i h1; rw [if_pos h1] at h; cases h
  · rename_i h1; rw [if_neg h1] at h
    split
    · rename_i h2; rw [if_pos h2] at h; cases h
    · exact ⟨by omega, by omega, rfl⟩
/-- A text. -/
def txtR (s : St) : ByteArray × St :=
  if (lenR s).2.2 = 0 then (if ((lenR s).2.1.length : Int) < (lenR s).1 then (ByteArray.empty, ([], 2)) else (strOfNums ((lenR s).2.1.take (lenR s).1.toNat), ((lenR s).2.1.drop (lenR s).1.toNat, 0))) else (ByteArray.empty, ([], (lenR s).2.2))
theorem txtR_len (s : St) : (txtR s).2.1.length ≤ s.1.length := by
  have := lenR_len s
  unfold txtR; split
  · split
    · simp
    · simp only [List.length_drop]; omega
  · simp
theorem txtR_err (s : St) (h : (txtR s).2.2 ≠ 0) : (txtR s).1 = ByteArray.empty ∧ (txtR s).2.1 = [] := by
  unfold txtR at *
  split
  · rename_i h0
    rw [if_pos h0] at h
    split
    · exact ⟨rfl, rfl⟩
    · rename_i h1; rw [if_neg h1] at h; exact absurd rfl h
  · exact ⟨rfl, rfl⟩
/-- k numbers. -/
def many : Nat → List Int → List Int × St
  | 0, b => ([], (b, 0))
  | k + 1, b => if (numR (b, 0)).2.2 = 0 then (if (many k (numR (b, 0)).2.1).2.2 = 0 then ((numR (b, 0)).1 :: (many k (numR (b, 0)).2.1).1, (many k (numR (b, 0)).2.1).2) else ([], ([], (many k (numR (b, 0)).2.1).2.2))) else ([], ([], (numR (b, 0)).2.2))
theorem many_len : ∀ (k : Nat) (b : List Int), (many k b).2.1.length ≤ b.length
  | 0, b => by simp [many]
  | k + 1, b => by
    have h1 := many_len k (numR (b, 0)).2.1
    have h2 := numR_len2 (b, 0)
    simp only [many]
    split
    · split
      · simp only at h2 ⊢; omega
      · simp
    · simp
theorem many_err : ∀ (k : Nat) (b : List Int), (many k b).2.2 ≠ 0 → (many k b).1 = [] ∧ (many k b).2.1 = []
  | 0, b, h => by simp [many] at h
  | k + 1, b, h => by
    simp only [many] at h ⊢
    split
    · rename_i h0
      rw [if_pos h0] at h
      split
      · rename_i h1; rw [if_pos h1] at h; exact absurd h1 h
      · exact ⟨rfl, rfl⟩
    · exact ⟨rfl, rfl⟩
/-- What is read so far, and what follows. -/
def pre (l : List Int) (r : List Int × St) : List Int × St := if r.2.2 = 0 then (l ++ r.1, r.2) else ([], ([], r.2.2))
theorem pre_nil (k : Nat) (b : List Int) : pre [] (many k b) = many k b := by
  unfold pre; split
  · simp
  · rename_i h
    obtain ⟨h1, h2⟩ := many_err k b h
    exact Prod.ext h1.symm (Prod.ext h2.symm rfl)
theorem pre_step (l b : List Int) (k : Nat) (h : (numR (b, 0)).2.2 = 0) : pre l (many (k + 1) b) = pre (l ++ [(numR (b, 0)).1]) (many k (numR (b, 0)).2.1) := by
  simp only [many, h, if_true]
  by_cases h1 : (many k (numR (b, 0)).2.1).2.2 = 0
  · simp [pre, h1]
  · simp [pre, h1]
theorem pre_stop (l b : List Int) (k : Nat) (h : (numR (b, 0)).2.2 ≠ 0) : pre l (many (k + 1) b) = ([], ([], (numR (b, 0)).2.2)) := by
  simp [many, pre, h]
/-- A list. -/
def numsR (s : St) : List Int × St := if (lenR s).2.2 = 0 then many (lenR s).1.toNat (lenR s).2.1 else ([], ([], (lenR s).2.2))
theorem numsR_len (s : St) : (numsR s).2.1.length ≤ s.1.length := by
  have h1 := lenR_len s
  unfold numsR; split
  · have := many_len (lenR s).1.toNat (lenR s).2.1; omega
  · simp
theorem numsR_err (s : St) (h : (numsR s).2.2 ≠ 0) : (numsR s).1 = [] ∧ (numsR s).2.1 = [] := by
  unfold numsR at *; split
  · rename_i h0; rw [if_pos h0] at h; exact many_err _ _ h
  · exact ⟨rfl, rfl⟩
/-- A boolean. -/
def boolR (s : St) : Bool × St := (decide ((numR s).1 = 1), if (numR s).1 < 0 ∨ 1 < (numR s).1 then ([], 1) else (numR s).2)
theorem boolR_len (s : St) : (boolR s).2.1.length ≤ s.1.length := by
  unfold boolR; simp only; split
  · simp
  · exact numR_len2 s
end Go.Proofs.Ytlcjpnagjiemiaa
