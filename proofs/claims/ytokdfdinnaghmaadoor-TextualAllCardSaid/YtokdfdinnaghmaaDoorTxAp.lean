/- Appending to a row that is full: a new row, and all old blocks as they were. -/
import Derived.Test.YtokdfdinnaghmaaDoorTxWd
import Derived.Maps.AppendAt
namespace Go.Proofs.YtokdfdinnaghmaaDoor.Tx
open Go Go.Lib Go.RowKit

theorem append_full {w : World} {base g n : Nat} {ty : TypeId} {xs : List Value} (hown : w.ownsRow base 9 1 (.slice (some ⟨g, 0, none⟩) n n) n xs) (hb : base ≤ w.heap.size) (hn : n ≤ 1000)
    (ad : Addr) (m c : Nat) (news : List Value) (hm : 0 < m) (hm2 : m ≤ 1000) (hl : news.length = m) (hnews : ∀ j u, news[j]? = some u → w.cell? (ad.add j) = some u) (h1 : ∀ u ∈ news, u.oneCell' = true) :
    ∃ v' w', (Builtin.append_ #[32, 32] ty #[.slice (some ⟨g, 0, none⟩) n n, .slice (some ad) m c]).run Tryd.prog w = .ok v' w' ∧ w'.ownsRow base 9 1 v' (n + m) (xs ++ news) ∧ Below w.heap.size w w' := by
  obtain ⟨i0, hi0, hz0, hz1, hz2⟩ := info_parts strInfo
  obtain ⟨v', w', hr, ho, -, -, -⟩ := run_append_own_at (P := Tryd.prog) w base 32 ty 9 i0 (.string ByteArray.empty) 1 16 Tryd.underlying32 hi0 hz0 hz1 hz2 rfl (by decide) _ n xs hown ad m c news (by omega) hnews h1 (by unfold maxLen; omega) (by omega) hb
  have holds : ∀ j u, xs[j]? = some u → w.cell? ((⟨g, 0, none⟩ : Addr).add j) = some u := hown.cells (g := g) rfl
  have hg := run_append_grow (P := Tryd.prog) (w := w) (ty := ty) 32 9 i0 (.string ByteArray.empty) Tryd.underlying32 hi0 hz0 ⟨g, 0, none⟩ n n xs (by rw [hz1]; exact hown.1) holds ad m c news (by rw [hz1]; omega) hnews (by omega) (by omega) (growslice_fits (by omega) (by rw [hz2]; omega))
  rw [hr] at hg
  have e := congrArg (fun r : Result Value => match r with | .ok _ w => w | _ => w) hg
  simp only at e
  refine ⟨v', w', hr, ho, ?_⟩
  rw [e]
  have h2 : Below w.heap.size w w.drew := ⟨rfl, rfl, rfl, Nat.le_refl _, fun _ _ => rfl⟩
  exact h2.alloc (Nat.le_refl _) _
end Go.Proofs.YtokdfdinnaghmaaDoor.Tx
