/- Plain mathematics of products: the order of texts, names, the errors of products. -/
import Derived.WalkKit
import Derived.Lib.Strings
namespace Go.Proofs.Ytcjceecdcjjnfaa.Pd
open Go.RowKit

theorem less_irrefl : ∀ l : List UInt8, Op.bytesLess l l = false
  | [] => rfl
  | c :: l => by simp [Op.bytesLess, less_irrefl l, UInt8.lt_irrefl]
theorem less_asymm : ∀ a b : List UInt8, Op.bytesLess a b = true → Op.bytesLess b a = false
  | [], [], _ => rfl
  | [], _ :: _, _ => rfl
  | _ :: _, [], h => by simp [Op.bytesLess] at h
  | x :: a, y :: b, h => by
    simp only [Op.bytesLess, Bool.or_eq_true, decide_eq_true_eq, Bool.and_eq_true, beq_iff_eq] at h
    simp only [Op.bytesLess, Bool.or_eq_false_iff, decide_eq_false_iff_not, Bool.and_eq_false_iff]
    rcases h with h | ⟨h, h2⟩
    · refine ⟨?_, .inl ?_⟩
      · intro h3; rw [UInt8.lt_iff_toNat_lt] at h h3; omega
      · simp only [beq_eq_false_iff_ne]; intro h3; subst h3; exact UInt8.lt_irrefl _ h
    · subst h
      exact ⟨UInt8.lt_irrefl _, .inr (less_asymm a b h2)⟩
theorem less_total : ∀ a b : List UInt8, Op.bytesLess a b = false → (a == b) = false → Op.bytesLess b a = true
  | [], [], _, h => by simp at h
  | [], _ :: _, h, _ => by simp [Op.bytesLess] at h
  | _ :: _, [], _, _ => rfl
  | x :: a, y :: b, h, h2 => by
    simp only [Op.bytesLess, Bool.or_eq_false_iff, decide_eq_false_iff_not, Bool.and_eq_false_iff] at h
    simp only [Op.bytesLess, Bool.or_eq_true, decide_eq_true_eq, Bool.and_eq_true, beq_iff_eq]
    by_cases hxy : x = y
    · subst hxy
      have h3 : Op.bytesLess a b = false := by simpa using h.2
      have h4 : (a == b) = false := by simpa using h2
      exact .inr ⟨rfl, less_total a b h3 h4⟩
    · left
      have h5 := h.1
      rw [UInt8.lt_iff_toNat_lt] at h5 ⊢
      have : x.toNat ≠ y.toNat := fun e => hxy (UInt8.toNat_inj.1 e)
      omega
theorem less_trans : ∀ a b c : List UInt8, Op.bytesLess a b = true → Op.bytesLess b c = true → Op.bytesLess a c = true
  | _, [], _, h, _ => by simp [Op.bytesLess] at h
  | _, _ :: _, [], _, h => by simp [Op.bytesLess] at h
  | [], _ :: _, _ :: _, _, _ => rfl
  | x :: a, y :: b, z :: c, h, h2 => by
    simp only [Op.bytesLess, Bool.or_eq_true, decide_eq_true_eq, Bool.and_eq_true, beq_iff_eq] at h h2 ⊢
    rcases h with h | ⟨h, h'⟩ <;> rcases h2 with h2 | ⟨h2, h2'⟩
    · left; rw [UInt8.lt_iff_toNat_lt] at *; omega
    · left; subst h2; exact h
    · left; subst h; exact h2
    · subst h; subst h2; exact .inr ⟨rfl, less_trans a b c h' h2'⟩
/-- Byte by byte. -/
def sLt (a b : ByteArray) : Bool := Op.bytesLess a.toList b.toList
theorem toList_eq {a b : ByteArray} (h : a.toList = b.toList) : a = b := by
  rw [Lib.toList_data, Lib.toList_data] at h
  obtain ⟨⟨a⟩⟩ := a
  obtain ⟨⟨b⟩⟩ := b
  simp at h
  rw [h]
theorem sEq (x y : ByteArray) : (x.toList == y.toList) = decide (x = y) := by
  by_cases h : x = y
  · subst h; simp
  · rw [decide_eq_false h]
    simp only [beq_eq_false_iff_ne]
    exact fun e => h (toList_eq e)
theorem sEq_is {x y : ByteArray} {v : Bool} (h : decide (x = y) = v) : (x.toList == y.toList) = v := by rw [sEq, h]
theorem sLt_irrefl (a : ByteArray) : sLt a a = false := less_irrefl _
theorem sLt_asymm {a b : ByteArray} (h : sLt a b = true) : sLt b a = false := less_asymm _ _ h
theorem sLt_trans {a b c : ByteArray} (h : sLt a b = true) (h2 : sLt b c = true) : sLt a c = true := less_trans _ _ _ h h2
theorem sLt_total {a b : ByteArray} (h : sLt a b = false) (h2 : a ≠ b) : sLt b a = true := less_total _ _ h (by rw [sEq]; exact decide_eq_false h2)
theorem sLt_ne {a b : ByteArray} (h : sLt a b = true) : a ≠ b := fun e => by subst e; rw [sLt_irrefl] at h; cases h

/-- Whether a byte can stand in a name; whether a text is a name. -/
def nmC (c : UInt8) : Bool := decide (97 ≤ c.toNat ∧ c.toNat ≤ 122) || decide (48 ≤ c.toNat ∧ c.toNat ≤ 57) || decide (c.toNat = 45)
def nmL (c : UInt8) : Bool := decide (97 ≤ c.toNat ∧ c.toNat ≤ 122)
def nmOk (s : ByteArray) : Bool := decide (1 ≤ s.size ∧ s.size ≤ 24) && (match s.data.toList with | [] => false | c :: _ => nmL c) && s.data.toList.all nmC
def fst0 (f : Nat → Int) : Nat → Int
  | 0 => 0
  | n + 1 => if fst0 f n = 0 then f n else fst0 f n
theorem fst0_next {f : Nat → Int} {k : Nat} (h : fst0 f k = 0) (h2 : f k = 0) : fst0 f (k + 1) = 0 := by simp [fst0, h, h2]
theorem fst0_hit {f : Nat → Int} {k : Nat} {e : Int} (h : fst0 f k = 0) (h2 : f k = e) (h3 : e ≠ 0) : ∀ {n : Nat}, k < n → fst0 f n = e := by
  intro n
  induction n with
  | zero => intro h; exact absurd h (Nat.not_lt_zero k)
  | succ n ih =>
    intro hk
    rcases Nat.lt_or_ge k n with hlt | hge
    · show (if fst0 f n = 0 then f n else fst0 f n) = e
      rw [ih hlt, if_neg h3]
    · obtain rfl : k = n := by omega
      show (if fst0 f k = 0 then f k else fst0 f k) = e
      rw [if_pos h, h2]

/-- A bundle: its kind, where its zones lie, units, rollover, priority, shared; and the zones. -/
structure Bn where
  (k : Int) (A : Option Addr) (n c : Nat) (u r p : Int) (s : Bool) (zs : List ByteArray)
/-- A product: name, from, fee, category, prorate, where its bundles lie; and the bundles. -/
structure Pr where
  (nm : ByteArray) (fr fe : Int) (ca : ByteArray) (pr : Bool) (A : Option Addr) (n c : Nat) (bs : List Bn)
def Bn.cells (b : Bn) : Array Value := #[.int .i64 b.k, .slice b.A b.n b.c, .int .i64 b.u, .int .i64 b.r, .int .i64 b.p, .bool b.s]
def Pr.cells (p : Pr) : Array Value := #[.string p.nm, .int .i64 p.fr, .int .i64 p.fe, .string p.ca, .bool p.pr, .slice p.A p.n p.c]
def zs0 : ByteArray := ByteArray.empty
def bn0 : Bn := ⟨0, none, 0, 0, 0, 0, 0, false, []⟩
def pr0 : Pr := ⟨ByteArray.empty, 0, 0, ByteArray.empty, false, none, 0, 0, []⟩

/-- The error of the zones of a bundle; of a bundle; of a product. -/
def zAt (l : List ByteArray) (i : Nat) : Int := if nmOk (l.getD i zs0) then 0 else 8
def oAt (l : List ByteArray) (i : Nat) : Int := if sLt (l.getD i zs0) (l.getD (i + 1) zs0) then 0 else 9
def ckZ (l : List ByteArray) : Int := if 64 < l.length then 5 else if fst0 (zAt l) l.length = 0 then fst0 (oAt l) (l.length - 1) else fst0 (zAt l) l.length
def bnR (b : Bn) : Bool := decide (1 ≤ b.u) && (decide (b.u ≤ 1099511627776) && (decide (0 ≤ b.r) && (decide (b.r ≤ 1099511627776) && (decide (0 ≤ b.p) && decide (b.p ≤ 99)))))
def ckN (b : Bn) : Int := if b.k < 1 ∨ 5 ≤ b.k then 7 else if ckZ b.zs = 0 then (if bnR b then 0 else 6) else ckZ b.zs
def bAt (l : List Bn) (i : Nat) : Int := ckN (l.getD i bn0)
def ckP (p : Pr) : Int :=
  if nmOk p.nm = false then 8 else if p.fr < 0 ∨ 12622780800 ≤ p.fr then 15 else if p.fe < 0 ∨ 1125899906842624 < p.fe then 6 else if nmOk p.ca = false then 8 else if 64 < p.bs.length then 5 else fst0 (bAt p.bs) p.bs.length
/-- Whether q does not come after p. -/
def bad (p q : Pr) : Bool := sLt q.nm p.nm || (decide (p.nm = q.nm) && decide (q.fr ≤ p.fr))
def pAt (l : List Pr) (i : Nat) : Int := if ckP (l.getD i pr0) = 0 then (if 0 < i ∧ bad (l.getD (i - 1) pr0) (l.getD i pr0) = true then 9 else 0) else ckP (l.getD i pr0)
def ckL (l : List Pr) : Int := if 4096 < l.length then 5 else fst0 (pAt l) l.length
end Go.Proofs.Ytcjceecdcjjnfaa.Pd
