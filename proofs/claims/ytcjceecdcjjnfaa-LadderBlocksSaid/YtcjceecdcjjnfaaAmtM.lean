/- Plain facts on amounts and lists of them; nothing of the program. -/
import Derived.WalkKit
import Derived.ProofKit
import Derived.Lib.Hide
import Derived.WalkLawsBesides
import Derived.Below
namespace Go.Proofs.Ytcjceecdcjjnfaa
open Go.RowKit

theorem ret_int {k : IntKind} {a b : Int} (h : a = b) : Ending.returned (.int k a) = .returned (.int k b) := by rw [h]
theorem ret_bool {a b : Bool} (h : a = b) : Ending.returned (.bool a) = .returned (.bool b) := by rw [h]
theorem ret_ints {j k : IntKind} {a b x y : Int} (h : a = b) (h2 : x = y) : Ending.returned (.tuple #[.int j a, .int k x]) = .returned (.tuple #[.int j b, .int k y]) := by rw [h, h2]

/-- An amount. -/
def okA (a : Int) : Bool := decide (-1125899906842624 ≤ a) && decide (a ≤ 1125899906842624)
theorem okA_iff {a : Int} : okA a = true ↔ -1125899906842624 ≤ a ∧ a ≤ 1125899906842624 := by simp [okA]
theorem okA_no {a : Int} : okA a = false ↔ ¬ (-1125899906842624 ≤ a ∧ a ≤ 1125899906842624) := by
  rw [← okA_iff]; simp
/-- The sum of two amounts, and the error. -/
def addV (a b : Int) : Int := if okA a && okA b && okA (a + b) then a + b else 0
def addE (a b : Int) : Int := if okA a && okA b && okA (a + b) then 0 else 6
theorem add_no1 {a b : Int} (h : okA a = false) : addV a b = 0 ∧ addE a b = 6 := by simp [addV, addE, h]
theorem add_no2 {a b : Int} (h : okA b = false) : addV a b = 0 ∧ addE a b = 6 := by simp [addV, addE, h]
theorem add_no3 {a b : Int} (h : okA (a + b) = false) : addV a b = 0 ∧ addE a b = 6 := by simp [addV, addE, h]
theorem add_yes {a b : Int} (h1 : okA a = true) (h2 : okA b = true) (h3 : okA (a + b) = true) : addV a b = a + b ∧ addE a b = 0 := by simp [addV, addE, h1, h2, h3]

/-- The first n cells from A on are the numbers zs. -/
def Ints (w : World) (A : Option Addr) (n : Nat) (zs : List Int) : Prop :=
  zs.length = n ∧ (∀ z ∈ zs, -9223372036854775808 ≤ z ∧ z ≤ 9223372036854775807) ∧ ∀ k, k < n → ∃ b off, A = some ⟨b, off, none⟩ ∧ b < w.heap.size ∧ w.cell? ⟨b, off + k, none⟩ = some (.int .i64 (zs[k]?.getD 0))
theorem Ints.range {w : World} {A : Option Addr} {n : Nat} {zs : List Int} (h : Ints w A n zs) (k : Nat) (hk : k < n) : -9223372036854775808 ≤ zs[k]?.getD 0 ∧ zs[k]?.getD 0 ≤ 9223372036854775807 := by
  have hl : k < zs.length := by rw [h.1]; exact hk
  rw [List.getElem?_eq_getElem hl]
  exact h.2.1 _ (List.getElem_mem hl)
theorem Ints.below {w w' : World} {A : Option Addr} {n : Nat} {zs : List Int} (h : Ints w A n zs) (hb : Below w.heap.size w w') : Ints w' A n zs :=
  ⟨h.1, h.2.1, fun k hk => by
    obtain ⟨b, off, e, hbl, hc⟩ := h.2.2 k hk
    exact ⟨b, off, e, Nat.lt_of_lt_of_le hbl hb.size, (hb.cell (p := ⟨b, off + k, none⟩) hbl).trans hc⟩⟩

theorem take_step (zs : List Int) (k : Nat) (h : k < zs.length) : zs.take (k + 1) = zs.take k ++ [zs[k]?.getD 0] := by
  rw [List.take_succ_eq_append_getElem h, List.getElem?_eq_getElem h]; rfl
theorem sum_bound {zs : List Int} (h : zs.all okA = true) : -(zs.length * 1125899906842624 : Int) ≤ zs.sum ∧ zs.sum ≤ zs.length * 1125899906842624 := by
  induction zs with
  | nil => simp
  | cons z zs ih =>
    simp only [List.all_cons, Bool.and_eq_true] at h
    have h1 := okA_iff.1 h.1
    have h2 := ih h.2
    simp only [List.sum_cons, List.length_cons]
    omega
theorem all_bad {zs : List Int} {k : Nat} (hk : k < zs.length) (h : okA (zs[k]?.getD 0) = false) : zs.all okA = false := by
  rw [List.getElem?_eq_getElem hk] at h
  rw [List.all_eq_false]
  exact ⟨zs[k], List.getElem_mem hk, by simpa using h⟩
/-- The sum of a list, unless it is too long or has something that is no amount. -/
def totV (zs : List Int) : Int := if decide (zs.length ≤ 4096) && zs.all okA then zs.sum else 0
def totE (zs : List Int) : Int := if decide (zs.length ≤ 4096) then (if zs.all okA then 0 else 6) else 5
theorem tot_long {zs : List Int} (h : 4096 < zs.length) : totV zs = 0 ∧ totE zs = 5 := by
  have e : decide (zs.length ≤ 4096) = false := decide_eq_false (by omega)
  simp only [totV, totE, e, Bool.false_and]; simp
theorem tot_bad {zs : List Int} (h : zs.length ≤ 4096) (h2 : zs.all okA = false) : totV zs = 0 ∧ totE zs = 6 := by
  have e : decide (zs.length ≤ 4096) = true := decide_eq_true h
  simp only [totV, totE, e, h2, Bool.and_false]; simp
theorem tot_good {zs : List Int} (h : zs.length ≤ 4096) (h2 : zs.all okA = true) : totV zs = zs.sum ∧ totE zs = 0 := by
  have e : decide (zs.length ≤ 4096) = true := decide_eq_true h
  simp only [totV, totE, e, h2]; simp
/-- The sum that is an amount. -/
def sumV (zs : List Int) : Int := if totE zs == 0 && okA (totV zs) then totV zs else 0
def sumE (zs : List Int) : Int := if totE zs == 0 then (if okA (totV zs) then 0 else 6) else totE zs
theorem sum_of_tot {zs : List Int} (h : totE zs = 5 ∨ totE zs = 6) : sumV zs = 0 ∧ sumE zs = totE zs := by
  have e : (totE zs == 0) = false := by rcases h with h | h <;> rw [h] <;> rfl
  simp only [sumV, sumE, e, Bool.false_and]; simp
theorem sum_range {zs : List Int} (h : totE zs = 0) (h2 : okA (totV zs) = false) : sumV zs = 0 ∧ sumE zs = 6 := by
  simp [sumV, sumE, h, h2]
theorem sum_good {zs : List Int} (h : totE zs = 0) (h2 : okA (totV zs) = true) : sumV zs = totV zs ∧ sumE zs = 0 := by
  simp [sumV, sumE, h, h2]
theorem tot_cases (zs : List Int) : (totE zs = 5 ∧ totV zs = 0) ∨ (totE zs = 6 ∧ totV zs = 0) ∨ totE zs = 0 := by
  by_cases h : zs.length ≤ 4096
  · cases h2 : zs.all okA with
    | false => exact .inr (.inl (tot_bad h h2).symm)
    | true => exact .inr (.inr (tot_good h h2).2)
  · exact .inl (tot_long (by omega)).symm
end Go.Proofs.Ytcjceecdcjjnfaa
