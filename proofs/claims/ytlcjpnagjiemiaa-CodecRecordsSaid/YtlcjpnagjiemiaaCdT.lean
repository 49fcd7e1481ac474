/- Walks: the reader's length, text and boolean. -/
import Derived.Test.YtlcjpnagjiemiaaRows
import Derived.Test.YtlcjpnagjiemiaaCdN
import Derived.Test.YtlcjpnagjiemiaaCdM2
namespace Go.Proofs.Ytlcjpnagjiemiaa
open Go.RowKit

theorem Rd.err {w0 W : World} {g : Nat} {l : List Int} {er : Int} (h : Rd w0 W g l er) (x : Int) (hx : x ≠ 0) : Rd w0 (W.setCell ⟨g, 1, none⟩ (.int .i64 x)) g [] x := by
  obtain ⟨hg, A, n, c, ys, hB, hA, _, hb⟩ := h
  exact ⟨hg, A, n, c, ys, hB.set1 x, hA, fun h => absurd h hx, below_set hb _⟩
theorem grown_trans {a b c : World} {r : Option Nat} (h1 : a.grownBy b r) (h2 : b.grownBy c r) : a.grownBy c r :=
  ⟨h2.os.trans h1.os, h2.tape.trans h1.tape, h2.output.trans h1.output, Nat.le_trans h1.size h2.size, fun k hk hne => (h2.block k (Nat.lt_of_lt_of_le hk h1.size) hne).trans (h1.block k hk hne)⟩
theorem Rd.cells {w0 W : World} {g : Nat} {l : List Int} {er : Int} (h : Rd w0 W g l er) : ∃ A n c, W.cell? ⟨g, 0, none⟩ = some (.slice A n c) ∧ W.cell? ⟨g, 1, none⟩ = some (.int .i64 er) ∧ W.frozen? ⟨g, 0, none⟩ = false ∧ W.frozen? ⟨g, 1, none⟩ = false := by
  obtain ⟨hg, A, n, c, ys, hB, hA, _, hb⟩ := h
  exact ⟨A, n, c, hB.cell0, hB.cell1, hB.fr0, hB.fr1⟩

set_option maxHeartbeats 2000000 in
theorem length_any {w0 W : World} {g : Nat} {l : List Int} {er : Int} (h : Rd w0 W g l er) :
    Calls Try.prog 49 #[.pointer (some ⟨g, 0, none⟩)] W (Steps w0 W g (.int .i64 (lenR (l, er)).1) (lenR (l, er)).2) := by
  have HN := Lib.hid (number_any h)
  obtain ⟨S, hS⟩ : ∃ S, numR (l, er) = S := ⟨_, rfl⟩
  have hL : lenR (l, er) = if S.1 < 0 then (S.1, ([], 1)) else if 1048576 < S.1 then (S.1, ([], 5)) else S := by rw [lenR, hS]
  rw [hS] at HN
  rw [hL]
  obtain ⟨V, R, e1⟩ := S
  clear h hS hL
  by_cases h1 : V < 0
  · rw [if_pos h1]
    go_enter Try.func49, Try.ntmps49
    go_wp2_with (go_at_call 33; refine HN.out.mono ?_; rintro e w1 ⟨rfl, hr, hgr⟩; obtain ⟨A1, n1, c1, k0, k1, f0, f1⟩ := hr.cells)
    go_ret
    exact ⟨rfl, hr.err 1 (by decide), grown_trans hgr (grown_set _ _ _ _)⟩
  · rw [if_neg h1]
    by_cases h2 : 1048576 < V
    · rw [if_pos h2]
      go_enter Try.func49, Try.ntmps49
      go_wp2_with (go_at_call 33; refine HN.out.mono ?_; rintro e w1 ⟨rfl, hr, hgr⟩; obtain ⟨A1, n1, c1, k0, k1, f0, f1⟩ := hr.cells)
      go_ret
      exact ⟨rfl, hr.err 5 (by decide), grown_trans hgr (grown_set _ _ _ _)⟩
    · rw [if_neg h2]
      go_enter Try.func49, Try.ntmps49
      go_wp2_with (go_at_call 33; refine HN.out.mono ?_; rintro e w1 ⟨rfl, hr, hgr⟩)
      go_ret
      exact ⟨rfl, hr, hgr⟩

set_option maxHeartbeats 2000000 in
theorem truth_any {w0 W : World} {g : Nat} {l : List Int} {er : Int} (h : Rd w0 W g l er) :
    Calls Try.prog 50 #[.pointer (some ⟨g, 0, none⟩)] W (Steps w0 W g (.bool (boolR (l, er)).1) (boolR (l, er)).2) := by
  have HN := Lib.hid (number_any h)
  obtain ⟨S, hS⟩ : ∃ S, numR (l, er) = S := ⟨_, rfl⟩
  have hL : boolR (l, er) = (decide (S.1 = 1), if S.1 < 0 ∨ 1 < S.1 then ([], 1) else S.2) := by rw [boolR, hS]
  rw [hS] at HN
  rw [hL]
  obtain ⟨V, R, e1⟩ := S
  clear h hS hL
  by_cases h1 : V < 0
  · rw [if_pos (.inl h1)]
    have h3 : (V == 1) = false := by simp; omega
    have hd : decide (V = 1) = false := by simp; omega
    simp only [hd]
    clear hd
    go_enter Try.func50, Try.ntmps50
    go_wp2_with (go_at_call 33; refine HN.out.mono ?_; rintro e w1 ⟨rfl, hr, hgr⟩; obtain ⟨A1, n1, c1, k0, k1, f0, f1⟩ := hr.cells)
    go_ret
    exact ⟨rfl, hr.err 1 (by decide), grown_trans hgr (grown_set _ _ _ _)⟩
  · by_cases h2 : 1 < V
    · rw [if_pos (.inr h2)]
      have h3 : (V == 1) = false := by simp; omega
      have hd : decide (V = 1) = false := by simp; omega
      simp only [hd]
      clear hd
      go_enter Try.func50, Try.ntmps50
      go_wp2_with (go_at_call 33; refine HN.out.mono ?_; rintro e w1 ⟨rfl, hr, hgr⟩; obtain ⟨A1, n1, c1, k0, k1, f0, f1⟩ := hr.cells)
      go_ret
      exact ⟨rfl, hr.err 1 (by decide), grown_trans hgr (grown_set _ _ _ _)⟩
    · rw [if_neg (by omega)]
      obtain ⟨T, hT⟩ : ∃ T, decide (V = 1) = T := ⟨_, rfl⟩
      have h3 : (V == 1) = T := by rw [← hT]; rfl
      simp only [hT]
      clear hT
      go_enter Try.func50, Try.ntmps50
      go_wp2_with (go_at_call 33; refine HN.out.mono ?_; rintro e w1 ⟨rfl, hr, hgr⟩)
      go_ret
      exact ⟨rfl, hr, hgr⟩
end Go.Proofs.Ytlcjpnagjiemiaa
