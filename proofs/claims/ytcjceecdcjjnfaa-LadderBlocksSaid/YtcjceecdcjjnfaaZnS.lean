/- Maps of texts in memory, as what they say of each text. -/
import Derived.Test.YtcjceecdcjjnfaaZnM
import Derived.Test.YtcjceecdcjjnfaaRows
import Derived.Maps.OwnSet
import Derived.Maps.OwnOps
import Derived.Maps.Views
import Derived.Maps.StringElems
import Derived.WalkKit
import Derived.Below
import Derived.Lib.Hide
namespace Go.Proofs.Ytcjceecdcjjnfaa.Zn
open Go Go.Maps Go.RowKit

theorem strLaw : Keyed Try.prog 9 := string_keyed Try.underlying9
theorem zeroS (w : World) : (zeroValue 9).run Try.prog w = .ok (.string ⟨#[]⟩) w := by kernel_rfl
/-- The map in block b says L. -/
def SMap (w : World) (b n : Nat) (L : List (Wd × Wd)) : Prop := ∃ D, w.ownsMap (H := Unit) Try.prog 9 (plainElem Try.prog 9) b n D ∧
  ∀ s : Wd, Maps.has D (.string s) = (val L s).isSome ∧ D.atKey (.string s) (.lit (.string [])) = .lit (.string ((val L s).getD []))
theorem SMap.made (w : World) : SMap (w.alloc (.map #[] 0)) w.heap.size 0 [] :=
  ⟨_, World.ownsMap_made _ _ _ _, fun _ => ⟨rfl, rfl⟩⟩
theorem SMap.kept {w w' : World} {b n : Nat} {L : List (Wd × Wd)} {row : Option Nat} (h : SMap w b n L) (hg : w.grownBy w' row) (hne : some b ≠ row) : SMap w' b n L := by
  obtain ⟨D, h1, h2⟩ := h
  exact ⟨D, h1.kept hg hne, h2⟩
theorem SMap.lt {w : World} {b n : Nat} {L : List (Wd × Wd)} (h : SMap w b n L) : b < w.heap.size := by
  obtain ⟨D, h1, -⟩ := h; exact h1.lt
theorem SMap.below {w w' : World} {b n : Nat} {L : List (Wd × Wd)} (h : SMap w b n L) (hb : Below w.heap.size w w') : SMap w' b n L :=
  h.kept (row := none) ⟨hb.os, hb.tape, hb.output, hb.size, fun k hk _ => hb.block k hk⟩ (by simp)
theorem val_snoc {L : List (Wd × Wd)} {p n : Wd} (h : val L p = none) (s : Wd) : val (L ++ [(p, n)]) s = if s = p then some n else val L s := by
  unfold val at *
  rw [List.find?_append]
  by_cases hs : s = p
  · subst hs
    rw [if_pos rfl]
    cases hf : L.find? (fun e => e.1 == s) with
    | none => simp
    | some e => rw [hf] at h; cases h
  · rw [if_neg hs]
    cases hf : L.find? (fun e => e.1 == s) with
    | none =>
      have : ¬ p = s := fun e => hs e.symm
      simp [this]
    | some e => rfl
/-- What a store leaves. -/
theorem smap_put {D : DataW Unit} {L : List (Wd × Wd)} (hD : IsMap D) (h2 : ∀ s : Wd, Maps.has D (.string s) = (val L s).isSome ∧ D.atKey (.string s) (.lit (.string [])) = .lit (.string ((val L s).getD []))) {p n : Wd} (hp : val L p = none) :
    ∀ s : Wd, Maps.has (D.put (.string p) (.lit (.string n))) (.string s) = (val (L ++ [(p, n)]) s).isSome ∧ (D.put (.string p) (.lit (.string n))).atKey (.string s) (.lit (.string [])) = .lit (.string ((val (L ++ [(p, n)]) s).getD [])) := by
  intro s
  rw [val_snoc hp]
  by_cases hs : s = p
  · subst hs
    rw [if_pos rfl, has_put_same hD (show WideAt.IsKeyLit (.string s) from trivial), atKey_put_same hD (show WideAt.IsKeyLit (.string s) from trivial)]
    exact ⟨rfl, rfl⟩
  · have hne : (Lit.string s) ≠ .string p := fun e => hs (by injection e)
    rw [if_neg hs, has_put_other hne, atKey_put_other hne]
    exact h2 s
end Go.Proofs.Ytcjceecdcjjnfaa.Zn
