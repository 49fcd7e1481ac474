/- Expressions in memory; walks: checkFields, and the reference's own. -/
import Derived.Test.YtcjceecdcjjnfaaCkS
import Derived.Deep.Quiet
namespace Go.Proofs.Ytcjceecdcjjnfaa.Ck
open Go Go.Lib Go.RowKit Go.Proofs.Ytcjceecdcjjnfaa

/-- A slice that reads as a list of expressions, at most d blocks deep. -/
def XA (w : World) : Nat → Option Addr → List Ex → Prop
  | 0, _, args => args = []
  | d + 1, A, args => ∀ i, i < args.length → ∃ (b off : Nat) (o n : Int) (t : ByteArray) (us : List Ex) (A' : Option Addr) (c' : Nat), A = some ⟨b, off, none⟩ ∧ b < w.heap.size ∧ args[i]? = some (.mk o n t us) ∧
      w.cell? ⟨b, off + i * 4, none⟩ = some (.int .i64 o) ∧ w.cell? ⟨b, off + i * 4 + 1, none⟩ = some (.int .i64 n) ∧ w.cell? ⟨b, off + i * 4 + 2, none⟩ = some (.string t) ∧ w.cell? ⟨b, off + i * 4 + 3, none⟩ = some (.slice A' us.length c') ∧
      us.length ≤ c' ∧ c' ≤ maxLen ∧ t.size ≤ maxLen ∧ XA w d A' us
theorem XA.below {w w' : World} (hb : Below w.heap.size w w') : ∀ {d : Nat} {A : Option Addr} {args : List Ex}, XA w d A args → XA w' d A args
  | 0, _, _, h => h
  | d + 1, A, args, h => fun i hi => by
    obtain ⟨b, off, o, n, t, us, A', c', h1, h2, h3, h4, h5, h6, h7, h8, h9, h10, h11⟩ := h i hi
    exact ⟨b, off, o, n, t, us, A', c', h1, Nat.lt_of_lt_of_le h2 hb.size, h3, (hb.cell (p := ⟨b, off + i * 4, none⟩) h2).trans h4, (hb.cell (p := ⟨b, off + i * 4 + 1, none⟩) h2).trans h5, (hb.cell (p := ⟨b, off + i * 4 + 2, none⟩) h2).trans h6, (hb.cell (p := ⟨b, off + i * 4 + 3, none⟩) h2).trans h7, h8, h9, h10, h11.below hb⟩
theorem XA.nil (w : World) (d : Nat) (A : Option Addr) : XA w d A [] := by
  cases d with
  | zero => rfl
  | succ d => exact fun i hi => absurd hi (Nat.not_lt_zero i)
theorem XA.more {w : World} : ∀ {d : Nat} {A : Option Addr} {args : List Ex}, XA w d A args → XA w (d + 1) A args
  | 0, _, _, h => by cases h; exact XA.nil _ _ _
  | d + 1, A, args, h => fun i hi => by
    obtain ⟨b, off, o, n, t, us, A', c', h1, h2, h3, h4, h5, h6, h7, h8, h9, h10, h11⟩ := h i hi
    exact ⟨b, off, o, n, t, us, A', c', h1, h2, h3, h4, h5, h6, h7, h8, h9, h10, h11.more⟩
theorem XA.mono {w : World} {d d' : Nat} (h : d ≤ d') {A : Option Addr} {args : List Ex} (k : XA w d A args) : XA w d' A args := by
  induction h with
  | refl => exact k
  | step _ ih => exact ih.more
theorem XA.at {w : World} {d : Nat} {A : Option Addr} {args : List Ex} (h : XA w d A args) {i : Nat} (hi : i < args.length) : ∃ (b off : Nat) (o n : Int) (t : ByteArray) (us : List Ex) (A' : Option Addr) (c' : Nat), A = some ⟨b, off, none⟩ ∧ b < w.heap.size ∧ args[i]? = some (.mk o n t us) ∧
      w.cell? ⟨b, off + i * 4, none⟩ = some (.int .i64 o) ∧ w.cell? ⟨b, off + i * 4 + 1, none⟩ = some (.int .i64 n) ∧ w.cell? ⟨b, off + i * 4 + 2, none⟩ = some (.string t) ∧ w.cell? ⟨b, off + i * 4 + 3, none⟩ = some (.slice A' us.length c') ∧
      us.length ≤ c' ∧ c' ≤ maxLen ∧ t.size ≤ maxLen ∧ XA w (d - 1) A' us := by
  cases d with
  | zero => cases h; exact absurd hi (Nat.not_lt_zero i)
  | succ d => exact h i hi
theorem XA.lt {w : World} {d : Nat} {A : Option Addr} {args : List Ex} (h : XA w d A args) {i : Nat} (hi : i < args.length) : 0 < d := by
  cases d with
  | zero => cases h; exact absurd hi (Nat.not_lt_zero i)
  | succ d => exact Nat.succ_pos d
/-- The error of an expression at a level, apart from its operands. -/
def cfE (lv op num : Int) (tx : ByteArray) (n : Nat) : Int := if 16 < lv then 24 else ownE op num tx n
theorem four {w : World} {g : Nat} {t : TypeId} {a b c d : Value} (h : Blk w g t #[a, b, c, d]) : w.cell? ⟨g, 0, none⟩ = some a ∧ w.cell? ⟨g, 1, none⟩ = some b ∧ w.cell? ⟨g, 2, none⟩ = some c ∧ w.cell? ⟨g, 3, none⟩ = some d := ⟨h.cell 0, h.cell 1, h.cell 2, h.cell 3⟩
theorem below_dN {B : Nat} {a w : World} (h : Below B a w) (n : Nat) : Below B a (w.drewN n) := ⟨h.os, h.tape, h.output, h.size, h.block⟩
theorem own_ar {op num : Int} {tx : ByteArray} {n : Nat} (h : ((n : Int) != arity op) = true) : ownE op num tx n = 7 := by
  unfold ownE; rw [if_pos (by simpa using h)]
theorem own_no {op num : Int} {tx : ByteArray} {n : Nat} (h : ((n : Int) != arity op) = false) : ownE op num tx n = if op = 1 ∧ inB num 0 1099511627776 = false then 6 else if op = 2 ∧ 200 < tx.size then 5 else if op = 3 ∧ attr tx = 0 then 11 else 0 := by
  unfold ownE; rw [if_neg (by simpa using h)]
end Go.Proofs.Ytcjceecdcjjnfaa.Ck
