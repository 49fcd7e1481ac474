/- Maps of texts in memory, as what they say of each text. -/
import Derived.Test.YtpkmnefbofhjbaaGreatZnM
import Derived.Test.YtpkmnefbofhjbaaGreatRows
import Derived.Maps.OwnSet
import Derived.Maps.OwnOps
import Derived.Maps.Views
import Derived.Maps.StringElems
import Derived.WalkKit
import Derived.Below
import Derived.Lib.Hide
namespace Go.Proofs.YtpkmnefbofhjbaaGreat.Zn
open Go Go.Maps Go.RowKit

theorem strLaw : Keyed Tryz.prog 9 := string_keyed Tryz.underlying9
theorem zeroS (w : World) : (zeroValue 9).run Tryz.prog w = .ok (.string ⟨#[]⟩) w := by kernel_rfl
/-- The map in block b says L. -/
def SMap (w : World) (b n : Nat) (L : List (Wd × Wd)) : Prop := ∃ D, w.ownsMap (H := Unit) Tryz.prog 9 (plainElem Tryz.prog 9) b n D ∧
  ∀ s : Wd, Maps.has D (.string s) = (val L s).isSome ∧ D.atKey (.string s) (.lit (.string [])) = .lit (.string ((val L s).getD []))
theorem SMap.made (w : World) : SMap (w.alloc (.map #[] 0)) w.heap.size 0 [] :=
  ⟨_, World.ownsMap_made _ _ _ _, fun _ => ⟨rfl, rfl⟩⟩
theorem SMap.kept {w w' : World} {b n : Nat} {L : List (Wd × Wd)} {row : Option Nat} (h : SMap w b n L) (hg : w.grownBy w' row) (hne : some b ≠ row) : SMap w' b n L := by
  obtain ⟨D, h1, h2⟩ := h
  exact ⟨D, h1.kept hg hne, h2⟩
theorem SMap.lt {w : World} {b n : Nat} {L : List (Wd × Wd)} (h : SMap w b n L) : b < w.heap.size := by
  obtain ⟨D, h1, -⟩ := h; exact h1.lt
theorem SMap.below {w w' : World} {b n : Nat} {L : List (Wd × Wd)} (h : SMap w b n L) (hb : Below w.heap.size w w') : SMap w' b n L :=
  h.kept (row := none) ⟨hb.os, hb.tape, hb.output, hb.size, fun k hk _ => hb.block k hk⟩ (by simp)
/-- m[s]. -/
theorem SMap.look {w : World} {b n : Nat} {L : List (Wd × Wd)} (h : SMap w b n L) (s : ByteArray) (hs : s.size ≤ maxLen) :
    ∃ v : ByteArray, (Instr.lookup 115 (.map (some b)) (.string s) false).run Tryz.prog w = .ok (.string v) w ∧ v.data.toList = (val L s.data.toList).getD [] ∧ v.size ≤ maxLen := by
  obtain ⟨D, h1, h2⟩ := h
  obtain ⟨v, ps, hr, hv⟩ := h1.lookup strLaw Tryz.underlying115 (zeroS w) (plainElem_string Tryz.underlying9 (s := ⟨#[]⟩) (by decide)) (WideMaps.keyOf_string_mk Tryz.underlying9 hs)
  have h3 := (h2 s.data.toList).2
  rw [show (DataW.lit (Lit.string (⟨#[]⟩ : ByteArray).data.toList) : DataW Unit) = .lit (.string []) from rfl, h3] at hv
  obtain ⟨t, rfl, ht, hl⟩ := plainElem_string_inv Tryz.underlying9 hv
  simp only [Prod.mk.injEq, DataW.lit.injEq, Lit.string.injEq] at ht
  exact ⟨t, hr, ht.1.symm, hl⟩
/-- v, ok := m[s]. -/
theorem SMap.look_ok {w : World} {b n : Nat} {L : List (Wd × Wd)} (h : SMap w b n L) (s : ByteArray) (hs : s.size ≤ maxLen) :
    ∃ v : ByteArray, (Instr.lookup 115 (.map (some b)) (.string s) true).run Tryz.prog w = .ok (.tuple #[.string v, .bool (val L s.data.toList).isSome]) w ∧ v.data.toList = (val L s.data.toList).getD [] ∧ v.size ≤ maxLen := by
  obtain ⟨D, h1, h2⟩ := h
  obtain ⟨v, ps, hr, hv⟩ := h1.look_ok strLaw Tryz.underlying115 (zeroS w) (plainElem_string Tryz.underlying9 (s := ⟨#[]⟩) (by decide)) (WideMaps.keyOf_string_mk Tryz.underlying9 hs)
  have h3 := (h2 s.data.toList).2
  rw [show (DataW.lit (Lit.string (⟨#[]⟩ : ByteArray).data.toList) : DataW Unit) = .lit (.string []) from rfl, h3] at hv
  rw [(h2 s.data.toList).1] at hr
  obtain ⟨t, rfl, ht, hl⟩ := plainElem_string_inv Tryz.underlying9 hv
  simp only [Prod.mk.injEq, DataW.lit.injEq, Lit.string.injEq] at ht
  exact ⟨t, hr, ht.1.symm, hl⟩
theorem val_snoc {L : List (Wd × Wd)} {p n : Wd} (h : val L p = none) (s : Wd) : val (L ++ [(p, n)]) s = if s = p then some n else val L s := by
  unfold val at *
  rw [List.find?_append]
  by_cases hs : s = p
  · subst hs
    rw [if_pos rfl]
    cases hf : L.find? (fun e => e.1 == s) with
    | none => simp
    | some e => rw [hf] at h; cases h
  · rw [if_neg hs]
    cases hf : L.find? (fun e => e.1 == s) with
    | none =>
      have : ¬ p = s := fun e => hs e.symm
      simp [this]
    | some e => rfl
/-- What a store leaves. -/
theorem smap_put {D : DataW Unit} {L : List (Wd × Wd)} (hD : IsMap D) (h2 : ∀ s : Wd, Maps.has D (.string s) = (val L s).isSome ∧ D.atKey (.string s) (.lit (.string [])) = .lit (.string ((val L s).getD []))) {p n : Wd} (hp : val L p = none) :
    ∀ s : Wd, Maps.has (D.put (.string p) (.lit (.string n))) (.string s) = (val (L ++ [(p, n)]) s).isSome ∧ (D.put (.string p) (.lit (.string n))).atKey (.string s) (.lit (.string [])) = .lit (.string ((val (L ++ [(p, n)]) s).getD [])) := by
  intro s
  rw [val_snoc hp]
  by_cases hs : s = p
  · subst hs
    rw [if_pos rfl, has_put_same hD (show WideAt.IsKeyLit (.string s) from trivial), atKey_put_same hD (show WideAt.IsKeyLit (.string s) from trivial)]
    exact ⟨rfl, rfl⟩
  · have hne : (Lit.string s) ≠ .string p := fun e => hs (by injection e)
    rw [if_neg hs, has_put_other hne, atKey_put_other hne]
    exact h2 s
end Go.Proofs.YtpkmnefbofhjbaaGreat.Zn
