/- Walks: the laws' awake; Count and SmallExpr of the reference. -/
import Derived.Test.YtklpaonhmmfioaaCkZ
import Derived.Test.YtklpaonhmmfioaaCkR
namespace Go.Proofs.Ytklpaonhmmfioaa.Ck
open Go Go.Lib Go.RowKit Go.Proofs.Ytklpaonhmmfioaa Go.Maps

theorem cell_lit (w : World) (cs : Array Value) (t : TypeId) (i : Nat) : (w.alloc (.cells cs t)).cell? ⟨w.heap.size, i, none⟩ = cs[i]? := (Blk.new w t cs).cell i
/-- Two expressions without operands in a block of their own. -/
theorem XA.lit2 (w : World) (o1 n1 o2 n2 : Int) (t1 t2 : ByteArray) (h1 : t1.size ≤ maxLen) (h2 : t2.size ≤ maxLen) :
    XA (w.alloc (.cells #[.int .i64 o1, .int .i64 n1, .string t1, .slice none 0 0, .int .i64 o2, .int .i64 n2, .string t2, .slice none 0 0] 24)) 1 (some ⟨w.heap.size, 0, none⟩) [.mk o1 n1 t1 [], .mk o2 n2 t2 []] := fun i hi => by
  match i, hi with
  | 0, _ => exact ⟨w.heap.size, 0, o1, n1, t1, [], none, 0, rfl, by simp, rfl, cell_lit _ _ _ _, cell_lit _ _ _ _, cell_lit _ _ _ _, cell_lit _ _ _ _, Nat.le_refl _, by decide, h1, rfl⟩
  | 1, _ => exact ⟨w.heap.size, 0, o2, n2, t2, [], none, 0, rfl, by simp, rfl, cell_lit _ _ _ _, cell_lit _ _ _ _, cell_lit _ _ _ _, cell_lit _ _ _ _, Nat.le_refl _, by decide, h2, rfl⟩
theorem expr_is {op num : Int} {tx : ByteArray} {args : List Ex} {s v : Int} (h : sortX 16 (.mk op num tx args) = (s, v)) (A : Option Addr) (d n c : Nat) (w : World) (hA : XA w d A args) (hn : args.length = n) (hc : n ≤ c) (hm : c ≤ maxLen) (ht : tx.size ≤ maxLen) :
    Calls Try.prog 20 #[.agg #[.int .i64 op, .int .i64 num, .string tx, .slice A n c]] w fun e w' => e = .returned (.tuple #[.int .i64 s, .int .i64 v]) ∧ Below w.heap.size w w' := by
  have := expr_any op num tx args A d n c w hA hn hc hm ht
  unfold SoOut at this
  rw [h] at this
  exact this
def units : ByteArray := ⟨#[117, 110, 105, 116, 115]⟩
def zoneT : ByteArray := ⟨#[122, 111, 110, 101]⟩
theorem aw1 : sortX 16 (.mk 9 0 ⟨#[]⟩ [.mk 1 60 ⟨#[]⟩ [], .mk 3 0 ⟨#[117, 110, 105, 116, 115]⟩ []]) = (3, 0) := by decide +kernel
theorem aw2 : sortX 16 (.mk 11 0 ⟨#[]⟩ [.mk 1 60 ⟨#[]⟩ [], .mk 3 0 ⟨#[122, 111, 110, 101]⟩ []]) = (0, 7) := by decide +kernel
theorem aw3 : stepsE [⟨60, 60, 1000⟩, ⟨0, 1, 20⟩] = 0 := by decide +kernel
theorem aw4 : stepsE [⟨60, 1, 0⟩, ⟨50, 1, 0⟩, ⟨0, 1, 0⟩] = 9 := by decide +kernel
end Go.Proofs.Ytklpaonhmmfioaa.Ck
