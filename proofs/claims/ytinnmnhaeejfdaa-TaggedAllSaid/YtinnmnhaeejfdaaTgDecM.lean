/- What elements say of a record. -/
import Derived.Test.YtinnmnhaeejfdaaTgFldM
import Derived.Test.YtinnmnhaeejfdaaDigUnp
import Derived.Test.YtinnmnhaeejfdaaDigUnp2
import Derived.Laws.Bits64b
import Derived.Laws.BitsLemmas
namespace Go.Proofs.Ytinnmnhaeejfdaa
open Go.RowKit

theorem bits_or_i64_nat (a b : Nat) (ha : a < 4611686018427387904) (hb : b < 4611686018427387904) :
    bits .or .i64 (a : Int) (b : Int) = ((a ||| b : Nat) : Int) := by
  have hx : a ||| b < 2 ^ 62 := Nat.or_lt_two_pow (by omega) (by omega)
  have h1 : (BitVec.ofInt 64 (a : Int)).toNat = a := by
    rw [BitVec.ofInt_natCast, BitVec.toNat_ofNat]; exact Nat.mod_eq_of_lt (by omega)
  have h2 : (BitVec.ofInt 64 (b : Int)).toNat = b := by
    rw [BitVec.ofInt_natCast, BitVec.toNat_ofNat]; exact Nat.mod_eq_of_lt (by omega)
  show IntKind.i64.wrap ((BitVec.ofInt 64 (a : Int) ||| BitVec.ofInt 64 (b : Int)).toNat : Int) = _
  rw [BitVec.toNat_or, h1, h2]
  rw [IntKind.wrap_i64]
  omega
theorem or_i64 {m : Int} {x : Int} (h0 : 0 ≤ m) (hm : m < 1099511627776) (hx0 : 0 ≤ x) (hx : x ≤ 255) : bits BinOp.or .i64 (m * 256) x = m * 256 + x := by
  obtain ⟨m, rfl⟩ := Int.eq_ofNat_of_zero_le h0
  obtain ⟨x, rfl⟩ := Int.eq_ofNat_of_zero_le hx0
  have e : (m : Int) * 256 = ((m * 256 : Nat) : Int) := by simp
  rw [e, bits_or_i64_nat _ _ (by omega) (by omega)]
  have := Nat.shiftLeft_add_eq_or_of_lt (show x < 2 ^ 8 by omega) m
  rw [Nat.shiftLeft_eq] at this
  rw [show m * 256 = m * 2 ^ 8 by rfl, ← this]
  simp
/-- The number of bytes, the highest first. -/
def numD (b : List Int) : Int := b.foldl (fun n x => n * 256 + x) 0
def numOk (b : List Int) : Bool := decide (1 ≤ b.length) && decide (b.length ≤ 6) && !(decide (b.headD 0 = 0))
/-- The record with one field set; none if the element does not have its form. -/
def setM (r : Rc) (t : Int) (v : List Int) : Option Rc :=
  if t = 4 then (if unpE v = 0 then some { r with sa := S (unpL v) } else none)
  else if t = 5 then (if unpE v = 0 then some { r with sb := S (unpL v) } else none)
  else if t = 11 then (if v.length = 1 ∧ 1 ≤ v.headD 0 ∧ v.headD 0 ≤ 3 then some { r with b9 := decide (v.headD 0 % 2 = 1), b11 := decide (2 ≤ v.headD 0) } else none)
  else if numOk v = true then
    (if t = 1 then some { r with s2 := numD v } else if t = 2 then some { r with s0 := numD v } else if t = 3 then some { r with s1 := numD v } else if t = 6 then some { r with s5 := numD v }
     else if t = 7 then some { r with s6 := numD v } else if t = 8 then some { r with s7 := numD v } else if t = 9 then some { r with s8 := numD v } else if t = 10 then some { r with s10 := numD v } else none)
  else none
def rc0 : Rc := ⟨0, 0, 0, ⟨#[]⟩, ⟨#[]⟩, 0, 0, 0, 0, false, 0, false⟩
def recM : Rc → List El → Option Rc
  | r, [] => some r
  | r, e :: t => match setM r e.1 e.2 with
    | none => none
    | some r' => recM r' t
/-- The record of bytes, and the error. -/
def decR (b : List Int) : Rc × Int :=
  match b with
  | x :: y :: t =>
    if (t.length : Int) < x * 256 + y then (rc0, 2) else if x * 256 + y < (t.length : Int) then (rc0, 3)
    else if (elmR t).2 ≠ 0 then (rc0, (elmR t).2)
    else match recM rc0 (elmR t).1 with
      | none => (rc0, 1)
      | some r => if chkR r ≠ 0 then (rc0, chkR r) else (r, 0)
  | _ => (rc0, 2)
theorem numD_snoc (l : List Int) (x : Int) : numD (l ++ [x]) = numD l * 256 + x := by simp [numD]
theorem fold_ran : ∀ (l : List Int) (a : Int), 0 ≤ a → (∀ x ∈ l, 0 ≤ x ∧ x ≤ 255) → 0 ≤ l.foldl (fun n x => n * 256 + x) a ∧ l.foldl (fun n x => n * 256 + x) a < (a + 1) * 256 ^ l.length
  | [], a, ha, _ => by simp; omega
  | x :: l, a, ha, h => by
    have hx := h x (List.mem_cons_self ..)
    have ih := fold_ran l (a * 256 + x) (by omega) (fun y hy => h y (List.mem_cons_of_mem _ hy))
    rw [List.foldl_cons, List.length_cons, Int.pow_succ]
    refine ⟨ih.1, Int.lt_of_lt_of_le ih.2 ?_⟩
    have hp : (0 : Int) ≤ 256 ^ l.length := Int.le_of_lt (Int.pow_pos (by decide))
    have := Int.mul_le_mul_of_nonneg_right (show a * 256 + x + 1 ≤ (a + 1) * 256 by omega) hp
    rw [Int.mul_comm (256 ^ l.length) 256, ← Int.mul_assoc]
    exact this
theorem numD_ran (l : List Int) (h : ∀ x ∈ l, 0 ≤ x ∧ x ≤ 255) : 0 ≤ numD l ∧ numD l < 256 ^ l.length := by
  have := fold_ran l 0 (by omega) h
  simpa [numD] using this
theorem byt_bts {w : World} {A : Option Addr} {n c : Nat} {l : List Int} (h : Byt w A n c l) : Bts w A n l := by
  refine ⟨h.len, h.ran, fun k hk => ?_⟩
  obtain ⟨b, off, x, hA, hx, hc, hb⟩ := h.at hk
  exact ⟨b, off, hA, hb, by rw [hx]; exact hc⟩
end Go.Proofs.Ytinnmnhaeejfdaa
