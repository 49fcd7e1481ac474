/- How the arguments of the laws on bands read. -/
import Derived.Test.YtpbohnlfiaigjaaBdArg
namespace Go.Proofs.Ytpbohnlfiaigjaa
open Go.ChangeShapes Go.WideShapes Go.ChangeAt Go.RowKit Go.Deep

theorem bds_of {H : Type} {enc : TypeId × Value → H} {w : World} {d : DataW H} {p : List MemPlace} {A : Option Addr} {len cap : Nat}
    (h : DataW.Trod enc Try.prog w 0 (fun _ => true) true 22 (.slice A len cap) d p) (hw : WL 22 d) : ∃ l : List Bd, l.length = len ∧ len ≤ cap ∧ cap ≤ maxLen ∧ BdR w A l ∧ ∀ b ∈ l, b.2.length ≤ 6000000000000 := by
  obtain ⟨fuel, hf⟩ := h
  obtain ⟨A', len', cap', l, hv, h1, h2, h3, h4, h5⟩ := bds_in (v := .slice A len cap) (x := (d, p)) hf hw
  injection hv with e1 e2 e3
  subst e1 e2 e3
  exact ⟨l, h3, h1, h2, h4, h5⟩
theorem ints_in {H : Type} {enc : TypeId × Value → H} {w : World} {fuel : Nat} {v : Value} {x : DataW H × List MemPlace}
    (h : DataW.trod enc Try.prog w 0 (fun _ => true) true fuel 30 [v] = some x) : ∃ A len cap zs, v = .slice A len cap ∧ zs.length = len ∧ len ≤ cap ∧ cap ≤ maxLen ∧ IR w A zs := by
  have h0 := h
  rcases open_slice Try.underlying30 h with ⟨hcs, _⟩ | ⟨a, l, c, m, n, D, Pl, hcs, _, hl, hm, hmm, hx, hi⟩
  · obtain rfl : v = .slice none 0 0 := by simpa using hcs
    exact ⟨none, 0, 0, [], rfl, rfl, Nat.le_refl _, by decide, IR.nil⟩
  · obtain rfl : v = .slice (some a) l c := by simpa using hcs
    obtain ⟨zs, hz⟩ := isRow_of Try.underlying30 Try.underlying3 (by kernel_rfl) (⟨fuel, h0⟩ : DataW.Trod enc Try.prog w 0 (fun _ => true) true 30 (.slice (some a) l c) x.1 x.2)
    obtain ⟨l', e1, e2, e3⟩ := ir_row hz
    exact ⟨_, _, _, l', rfl, e1, e2, hm, e3⟩
set_option maxRecDepth 100000 in
theorem week_in {H : Type} {enc : TypeId × Value → H} {w : World} {r : Reach} {b0 : Nat} {v : Value} {d : DataW H} {p : List MemPlace}
    (hv : Value.okWide Try.prog w r b0 32 v) (h : DataW.Trod enc Try.prog w 0 (fun _ => true) true 32 v d p) (hw : WL 32 d) :
    ∃ A len cap l B n c zs, v = .agg #[.slice A len cap, .slice B n c] ∧ len ≤ cap ∧ cap ≤ maxLen ∧ l.length = len ∧ BdR w A l ∧ (∀ b ∈ l, b.2.length ≤ 6000000000000) ∧ n ≤ c ∧ c ≤ maxLen ∧ zs.length = n ∧ IR w B zs := by
  obtain ⟨v0, v1, y0, y1, n, rfl, hd, _, h0, h1⟩ := Go.Joins.open_agg2 Try.underlying32 (by kernel_rfl) (by kernel_rfl) hv h
  subst hd
  have hw0 : WL 22 y0.1 := WL.part Try.underlying32 hw (j := 0) rfl rfl
  obtain ⟨A, len, cap, l, rfl, k1, k2, k3, k4, k5⟩ := bds_in h0 hw0
  obtain ⟨B, n', c', zs, rfl, e1, e2, e3, e4⟩ := ints_in h1
  exact ⟨A, len, cap, l, B, n', c', zs, rfl, k1, k2, k3, k4, k5, e2, e3, e1, e4⟩
end Go.Proofs.Ytpbohnlfiaigjaa
