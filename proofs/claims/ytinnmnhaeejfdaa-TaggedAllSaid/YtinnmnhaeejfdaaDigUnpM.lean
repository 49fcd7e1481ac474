/- Plain facts on unpacking digits. -/
import Derived.Test.YtinnmnhaeejfdaaDigM
import Derived.Test.YtinnmnhaeejfdaaDigMaskM
import Derived.Below
namespace Go.Proofs.Ytinnmnhaeejfdaa
open Go.RowKit

/-- The first n cells from A on are the bytes zs. -/
def Bts (w : World) (A : Option Addr) (n : Nat) (zs : List Int) : Prop :=
  zs.length = n ∧ (∀ z ∈ zs, 0 ≤ z ∧ z ≤ 255) ∧ ∀ k, k < n → ∃ b off, A = some ⟨b, off, none⟩ ∧ b < w.heap.size ∧ w.cell? ⟨b, off + k, none⟩ = some (.int .u8 (zs[k]?.getD 0))
theorem Bts.range {w : World} {A : Option Addr} {n : Nat} {zs : List Int} (h : Bts w A n zs) (k : Nat) (hk : k < n) : 0 ≤ zs[k]?.getD 0 ∧ zs[k]?.getD 0 ≤ 255 := by
  have hl : k < zs.length := by rw [h.1]; exact hk
  rw [List.getElem?_eq_getElem hl]
  exact h.2.1 _ (List.getElem_mem hl)
theorem Bts.below {w w' : World} {A : Option Addr} {n : Nat} {zs : List Int} (h : Bts w A n zs) (hb : Below w.heap.size w w') : Bts w' A n zs :=
  ⟨h.1, h.2.1, fun k hk => by
    obtain ⟨b, off, e, hbl, hc⟩ := h.2.2 k hk
    exact ⟨b, off, e, Nat.lt_of_lt_of_le hbl hb.size, (hb.cell (p := ⟨b, off + k, none⟩) hbl).trans hc⟩⟩

/-- A small number as a byte. -/
def b8 (i : Int) : UInt8 := UInt8.ofNat i.toNat
theorem b8_toNat {i : Int} (h0 : 0 ≤ i) (h1 : i ≤ 255) : ((b8 i).toNat : Int) = i := by
  unfold b8
  have : i.toNat < 256 := by omega
  rw [UInt8.toNat_ofNat', Nat.mod_eq_of_lt (by omega)]; omega
/-- Bytes as values. -/
def U (l : List UInt8) : List Value := l.map fun c => Value.int .u8 c.toNat
theorem U_append (a b : List UInt8) : U (a ++ b) = U a ++ U b := by simp [U]
theorem U_one {i : Int} (h0 : 0 ≤ i) (h1 : i ≤ 255) : U [b8 i] = [Value.int .u8 i] := by simp only [U, List.map_cons, List.map_nil, b8_toNat h0 h1]
theorem U_length (l : List UInt8) : (U l).length = l.length := by simp [U]

/-- Has the low half of byte k of n no digit? -/
def noLow (z : Int) (n k : Nat) : Bool := decide (z % 16 = 15) && !decide (k + 1 < n)
/-- The text of the first k of n bytes. -/
def unpTo (zs : List Int) (n : Nat) : Nat → List UInt8
  | 0 => []
  | k + 1 => unpTo zs n k ++ (b8 (48 + zs[k]?.getD 0 / 16) :: if noLow (zs[k]?.getD 0) n k then [] else [b8 (48 + zs[k]?.getD 0 % 16)])
theorem unpTo_length (zs : List Int) (n : Nat) : ∀ k, (unpTo zs n k).length ≤ 2 * k
  | 0 => by simp [unpTo]
  | k + 1 => by
    have := unpTo_length zs n k
    simp only [unpTo, List.length_append, List.length_cons]
    split <;> simp <;> omega
theorem unpTo_low (zs : List Int) (n : Nat) : ∀ k, k ≤ n → 2 * k ≤ (unpTo zs n k).length + 1 ∧ (k < n → 2 * k ≤ (unpTo zs n k).length)
  | 0, _ => by simp
  | k + 1, h => by
    have h1 := (unpTo_low zs n k (by omega)).2 (by omega)
    cases hl : noLow (zs[k]?.getD 0) n k with
    | true =>
      have hl' : ¬ k + 1 < n := by simp [noLow] at hl; omega
      simp only [unpTo, List.length_append, List.length_cons, hl, if_true, List.length_nil]
      omega
    | false =>
      simp only [unpTo, List.length_append, List.length_cons, hl, Bool.false_eq_true, if_false, List.length_nil]
      omega
theorem unpTo_one {zs : List Int} {n k : Nat} {z : Int} (hz : zs[k]?.getD 0 = z) (h : noLow z n k = true) : unpTo zs n (k + 1) = unpTo zs n k ++ [b8 (48 + z / 16)] := by
  subst hz; simp [unpTo, h]
theorem unpTo_two {zs : List Int} {n k : Nat} {z : Int} (hz : zs[k]?.getD 0 = z) (h : noLow z n k = false) : unpTo zs n (k + 1) = unpTo zs n k ++ [b8 (48 + z / 16)] ++ [b8 (48 + z % 16)] := by
  subst hz; simp [unpTo, h]
/-- The number with the packed form zs, and the error. -/
def unpL (zs : List Int) : List UInt8 := if decide (zs.length ≤ 8) && numB (unpTo zs zs.length zs.length) then unpTo zs zs.length zs.length else []
def unpE (zs : List Int) : Int := if decide (zs.length ≤ 8) && numB (unpTo zs zs.length zs.length) then 0 else 12
theorem unp_long {zs : List Int} (h : 8 < zs.length) : unpL zs = [] ∧ unpE zs = 12 := by
  have e : decide (zs.length ≤ 8) = false := decide_eq_false (by omega)
  simp only [unpL, unpE, e, Bool.false_and]; simp
theorem unp_bad {zs : List Int} (h : numB (unpTo zs zs.length zs.length) = false) : unpL zs = [] ∧ unpE zs = 12 := by simp [unpL, unpE, h]
theorem unp_good {zs : List Int} (h : zs.length ≤ 8) (h2 : numB (unpTo zs zs.length zs.length) = true) : unpL zs = unpTo zs zs.length zs.length ∧ unpE zs = 0 := by simp [unpL, unpE, h, h2]
theorem and15 (z : Int) (h0 : 0 ≤ z) (h1 : z ≤ 255) : bits BinOp.and IntKind.u8 z 15 = z % 16 := by
  obtain ⟨n, rfl⟩ := Int.eq_ofNat_of_zero_le h0
  have key : ∀ n : Fin 256, bits BinOp.and IntKind.u8 (n.val : Int) 15 = (n.val : Int) % 16 := by decide +kernel
  exact key ⟨n, by omega⟩
end Go.Proofs.Ytinnmnhaeejfdaa
