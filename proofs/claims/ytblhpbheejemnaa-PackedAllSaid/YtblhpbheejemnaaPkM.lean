/- Packed decimals: the bytes of a number, and the number of bytes. -/
import Derived.Test.YtblhpbheejemnaaByB
namespace Go.Proofs.Ytblhpbheejemnaa

/-- The last two digits of a number, in a byte. -/
def pdD (n : Nat) : Nat := n / 10 % 10 * 16 + n % 10
theorem pdD_lt (n : Nat) : pdD n ≤ 153 := by unfold pdD; omega
/-- The last k bytes of a number. -/
def pdL (n : Nat) : Nat → List Int
  | 0 => []
  | k + 1 => (pdD (n / 100 ^ k) : Int) :: pdL n k
theorem pd_len (n : Nat) : ∀ k, (pdL n k).length = k
  | 0 => rfl
  | k + 1 => by simp [pdL, pd_len n k]
theorem pd_ran (n : Nat) : ∀ k, ∀ x ∈ pdL n k, 0 ≤ x ∧ x ≤ 255
  | 0, x, hx => by cases hx
  | k + 1, x, hx => by
    rcases List.mem_cons.1 hx with rfl | h
    · have := pdD_lt (n / 100 ^ k); omega
    · exact pd_ran n k x h
/-- A field of which the last i bytes are written. -/
def pdF (n size i : Nat) : List Int := List.replicate (size - i) 0 ++ pdL n i
theorem pdF_zero (n size : Nat) : pdF n size 0 = List.replicate size 0 := by simp [pdF, pdL]
theorem pdF_all (n size : Nat) : pdF n size size = pdL n size := by simp [pdF]
theorem pdF_len {n size i : Nat} (h : i ≤ size) : (pdF n size i).length = size := by simp [pdF, pd_len]; omega
theorem pdF_set {n size i : Nat} (h : i < size) : (pdF n size i).set (size - 1 - i) (pdD (n / 100 ^ i) : Int) = pdF n size (i + 1) := by
  unfold pdF
  obtain ⟨d, rfl⟩ : ∃ d, size = i + 1 + d := ⟨size - (i + 1), by omega⟩
  rw [show i + 1 + d - i = d + 1 by omega, show i + 1 + d - 1 - i = d by omega, show i + 1 + d - (i + 1) = d by omega, List.replicate_succ', List.append_assoc]
  rw [List.set_append_right _ _ (by simp)]
  simp [pdL]
theorem pow_div (n i : Nat) : n / 100 ^ i / 100 = n / 100 ^ (i + 1) := by rw [Nat.div_div_eq_div_mul, Nat.pow_succ]
/-- A byte of two digits. -/
def bdB (x : Int) : Bool := decide (x / 16 ≤ 9) && decide (x % 16 ≤ 9)
def deF (a : Int) (x : Int) : Int := a * 100 + x / 16 * 10 + x % 16
def deN (l : List Int) : Int := l.foldl deF 0
/-- The number of bytes, and the error. -/
def deL (l : List Int) : Int × Int := if l.length < 1 ∨ 9 < l.length then (0, 6) else if l.all bdB = true then (deN l, 0) else (0, 1)
theorem de_snoc (l : List Int) (x : Int) : deN (l ++ [x]) = deN l * 100 + x / 16 * 10 + x % 16 := by simp [deN, deF]
theorem de_bound : ∀ {k : Nat} {l : List Int}, (∀ x ∈ l, 0 ≤ x ∧ x ≤ 255) → l.all bdB = true → k ≤ l.length → 0 ≤ deN (l.take k) ∧ deN (l.take k) < 100 ^ k
  | 0, l, _, _, _ => by simp [deN]
  | k + 1, l, hr, hb, hk => by
    obtain ⟨h1, h2⟩ := de_bound (k := k) hr hb (by omega)
    rw [List.take_succ_eq_append_getElem (by omega), de_snoc]
    have hm := List.getElem_mem (show k < l.length by omega)
    obtain ⟨r1, r2⟩ := hr _ hm
    have hbb := List.all_eq_true.1 hb _ hm
    simp only [bdB, Bool.and_eq_true, decide_eq_true_eq] at hbb
    have e : (100 : Int) ^ (k + 1) = 100 ^ k * 100 := Int.pow_succ ..
    rw [e]
    generalize (100 : Int) ^ k = P at *
    omega
theorem pd_dec (n : Nat) : ∀ (k : Nat) (a : Int), (pdL n k).foldl deF a = a * 100 ^ k + ((n % 100 ^ k : Nat) : Int)
  | 0, a => by simp [pdL, Nat.mod_one]
  | k + 1, a => by
    rw [pdL, List.foldl_cons, pd_dec n k]
    have h : n % 100 ^ (k + 1) = n % 100 ^ k + 100 ^ k * (n / 100 ^ k % 100) := by rw [Nat.pow_succ, Nat.mod_mul]
    rw [h]
    have hd : deF a (pdD (n / 100 ^ k) : Int) = a * 100 + ((n / 100 ^ k % 100 : Nat) : Int) := by
      generalize n / 100 ^ k = q
      unfold deF pdD
      omega
    rw [hd, Int.pow_succ, Int.natCast_add, Int.natCast_mul, Int.natCast_pow]
    have key : ∀ (a d P r : Int), (a * 100 + d) * P + r = a * (P * 100) + (r + P * d) := by
      intro a d P r
      rw [Int.add_mul, Int.mul_assoc, Int.mul_comm 100 P, Int.mul_comm d P]; omega
    exact key _ _ _ _
theorem pd_all (n : Nat) : ∀ k, (pdL n k).all bdB = true
  | 0 => rfl
  | k + 1 => by
    rw [pdL, List.all_cons, pd_all n k, Bool.and_true]
    have h : ∀ q : Nat, bdB ((pdD q : Nat) : Int) = true := fun q => by
      unfold bdB
      rw [Bool.and_eq_true, decide_eq_true_eq, decide_eq_true_eq]
      unfold pdD
      constructor <;> omega
    exact h _
/-- A number is recovered from its bytes. -/
theorem de_pd {n k : Nat} (h1 : 1 ≤ k) (h9 : k ≤ 9) (hn : n < 100 ^ k) : deL (pdL n k) = ((n : Int), 0) := by
  unfold deL
  rw [pd_len, if_neg (by omega), if_pos (pd_all n k)]
  unfold deN
  rw [pd_dec, Nat.mod_eq_of_lt hn]
  simp
theorem or_two9 (a b : Int) (h0 : 0 ≤ a) (h1 : a ≤ 9) (h2 : 0 ≤ b) (h3 : b ≤ 9) : bits BinOp.or IntKind.i64 (a * 16) b = a * 16 + b := by
  obtain ⟨n, rfl⟩ := Int.eq_ofNat_of_zero_le h0
  obtain ⟨m, rfl⟩ := Int.eq_ofNat_of_zero_le h2
  have key : ∀ n : Fin 10, ∀ m : Fin 10, bits BinOp.or IntKind.i64 ((n.val : Int) * 16) (m.val : Int) = (n.val : Int) * 16 + (m.val : Int) := by decide +kernel
  exact key ⟨n, by omega⟩ ⟨m, by omega⟩
end Go.Proofs.Ytblhpbheejemnaa
