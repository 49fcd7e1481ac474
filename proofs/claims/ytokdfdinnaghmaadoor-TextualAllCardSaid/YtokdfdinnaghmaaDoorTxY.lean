/- Tables of what the operations of a drawn region yield. -/
import Derived.Test.YtokdfdinnaghmaaDoorTxRS
import Derived.WalkKit
import Derived.Test.YtokdfdinnaghmaaDoorLawKit
import Derived.Below
namespace Go.Proofs.YtokdfdinnaghmaaDoor.Tx
open Go Go.RowKit Go.Proofs.YtokdfdinnaghmaaDoor

/-- What an operation has yielded, in words that no later operation undoes. -/
structure YP where
  holds : Value → World → Prop
  below : ∀ v w w', holds v w → Below w.heap.size w w' → holds v w'
def YP.val (u : Value) : YP := ⟨fun v _ => v = u, fun _ _ _ h _ => h⟩
def YP.any : YP := ⟨fun _ _ => True, fun _ _ _ h _ => h⟩
theorem yp_at {T : List YP} {i : Nat} {v : Value} {w : World} {k : YP} (h : T[i]? = some k) (hk : k.holds v w) : (T.getD i .any).holds v w := by
  rw [List.getD_eq_getElem?_getD, h]; exact hk
theorem yp_get {T : List YP} {i : Nat} {v : Value} {w : World} {k : YP} (h : T[i]? = some k) (hk : (T.getD i .any).holds v w) : k.holds v w := by
  rw [List.getD_eq_getElem?_getD, h] at hk; exact hk
theorem yp_call {f : FuncId} {args : Array Value} {w L : World} {T : List YP} {i : Nat} {k : YP} (hT : T[i]? = some k) (hI : Below L.heap.size L w)
    (hc : Calls Tryd.prog f args w fun e w' => ∃ v, e = .returned v ∧ k.holds v w' ∧ Below w.heap.size w w') :
    Calls Tryd.prog f args w fun e w' => ∃ v, e = .returned v ∧ Below L.heap.size L w' ∧ (∀ j u, (T.getD j .any).holds u w → (T.getD j .any).holds u w') ∧ (T.getD i .any).holds v w' := by
  refine hc.mono fun e w' => ?_
  rintro ⟨v, rfl, ho, hb⟩
  exact ⟨v, rfl, hI.trans (hb.mono hI.size), fun j u h => (T.getD j .any).below u w w' h hb, yp_at hT ho⟩
theorem yp_new {P : Program} {Q : Exit → Act → World → Prop} {i : Nat} {o : Oper} {a : Act} {w w' L : World} {v : Value} {T : List YP} {k : YP} (hT : T[i]? = some k) (h : (execOp a.eval o).run P w = .ok (.value v) w') (hI : Below L.heap.size L w) (hb : Below w.heap.size w w') (hy : k.holds v w') :
    o.wp P a w (fun a' w' => ∃ v, a' = a.put o.dst v ∧ Below L.heap.size L w' ∧ (∀ j u, (T.getD j .any).holds u w → (T.getD j .any).holds u w') ∧ (T.getD i .any).holds v w') Q := by
  unfold Oper.wp
  rw [h]
  exact ⟨v, rfl, hI.trans (hb.mono hI.size), fun j u h => (T.getD j .any).below u w w' h hb, yp_at hT hy⟩
end Go.Proofs.YtokdfdinnaghmaaDoor.Tx
