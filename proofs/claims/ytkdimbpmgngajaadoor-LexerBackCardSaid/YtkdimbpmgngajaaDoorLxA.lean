/- Equal tokens; how a list of tokens reads; the chapter's examples. -/
import Derived.Test.YtkdimbpmgngajaaDoorLxQ
import Derived.Test.YtkdimbpmgngajaaDoorLxK
namespace Go.Proofs.YtkdimbpmgngajaaDoor.Lx
open Go Go.Lib Go.RowKit Go.Proofs.YtkdimbpmgngajaaDoor Go.Maps

theorem guardTk : Tryd.prog.eqGuardType Tryd.prog.depth 30 = false := by kernel_rfl
set_option maxHeartbeats 1000000 in
theorem neqTk_same (k n p : Int) (x : ByteArray) (w : World) : (binOp .neq 30 (.agg #[.int .i64 k, .int .i64 n, .int .i64 p, .string x]) (.agg #[.int .i64 k, .int .i64 n, .int .i64 p, .string x])).run Tryd.prog w = .ok (.bool false) w := by
  have u3 := Tryd.underlying3
  have a3 := Tryd.isAgg3
  have z3 := Tryd.sizeOf3
  have u9 := Tryd.underlying9
  have a9 := Tryd.isAgg9
  have z9 := Tryd.sizeOf9
  have hS : Tryd.prog.underlying 30 = some (.struct (Tryd.prog.fieldsOf 30)) := by kernel_rfl
  have hp : Tryd.prog.stoodInHeld 30 = false := by kernel_rfl
  rw [run_neq_struct, show (10000 : Nat) = 9999 + 1 from rfl, run_equalIn_agg w 9999 30 _ _ hS hp]
  simp only [Program.fieldsOf, Tryd.underlying30]
  go_simp
set_option maxHeartbeats 1000000 in
theorem eqTk_same (k n p : Int) (x : ByteArray) (w : World) : (binOp .eql 30 (.agg #[.int .i64 k, .int .i64 n, .int .i64 p, .string x]) (.agg #[.int .i64 k, .int .i64 n, .int .i64 p, .string x])).run Tryd.prog w = .ok (.bool true) w := by
  have u3 := Tryd.underlying3
  have a3 := Tryd.isAgg3
  have z3 := Tryd.sizeOf3
  have u9 := Tryd.underlying9
  have a9 := Tryd.isAgg9
  have z9 := Tryd.sizeOf9
  have hS : Tryd.prog.underlying 30 = some (.struct (Tryd.prog.fieldsOf 30)) := by kernel_rfl
  have hp : Tryd.prog.stoodInHeld 30 = false := by kernel_rfl
  rw [run_eql_struct, show (10000 : Nat) = 9999 + 1 from rfl, run_equalIn_agg w 9999 30 _ _ hS hp]
  simp only [Program.fieldsOf, Tryd.underlying30]
  go_simp
def tk0 : Tk := ⟨0, 0, []⟩
/-- A slice that reads as a list of tokens of a text of N bytes. -/
def TokR (w : World) (A : Option Addr) (N : Nat) (D : List Tk) : Prop := ∀ k, k < D.length → ∃ b, A = some ⟨b, 0, none⟩ ∧ b < w.heap.size ∧
  w.cell? ⟨b, k * 4, none⟩ = some (.int .i64 (D.getD k tk0).k) ∧ w.cell? ⟨b, k * 4 + 1, none⟩ = some (.int .i64 (numV (D.getD k tk0).k (D.getD k tk0).tx)) ∧ w.cell? ⟨b, k * 4 + 2, none⟩ = some (.int .i64 ((N - (D.getD k tk0).rem : Nat) : Int)) ∧ w.cell? ⟨b, k * 4 + 3, none⟩ = some (.string ⟨⟨(D.getD k tk0).tx⟩⟩)
theorem TokR.below {w w' : World} {A : Option Addr} {N : Nat} {D : List Tk} (h : TokR w A N D) (hb : Below w.heap.size w w') : TokR w' A N D := fun k hk => by
  obtain ⟨b, e, h0, h1, h2, h3, h4⟩ := h k hk
  exact ⟨b, e, Nat.lt_of_lt_of_le h0 hb.size, (hb.cell (p := ⟨b, k * 4, none⟩) h0).trans h1, (hb.cell (p := ⟨b, k * 4 + 1, none⟩) h0).trans h2, (hb.cell (p := ⟨b, k * 4 + 2, none⟩) h0).trans h3, (hb.cell (p := ⟨b, k * 4 + 3, none⟩) h0).trans h4⟩
theorem tkl_at (N : Nat) : ∀ (D : List Tk) (k r : Nat), k < D.length → r < 4 → (tkl N D)[k * 4 + r]? = (tkv N (D.getD k tk0))[r]?
  | [], k, _, h, _ => absurd h (Nat.not_lt_zero k)
  | z :: l, 0, r, _, hr => by
    rw [tkl, List.flatMap_cons, Nat.zero_mul, Nat.zero_add, List.getElem?_append_left (by simp [tkv]; omega)]; simp
  | z :: l, k + 1, r, h, hr => by
    have := tkl_at N l k r (by simpa using h) hr
    rw [tkl, List.flatMap_cons, List.getElem?_append_right (by simp [tkv]; omega), show (k + 1) * 4 + r - (tkv N z).length = k * 4 + r by simp [tkv]; omega]
    rw [tkl] at this
    rw [this]; simp
theorem own_formN {w : World} {base e size : Nat} {v : Value} {n : Nat} {xs : List Value} (h : w.ownsRow base e size v n xs) : ∃ A cap, v = .slice A n cap ∧ n ≤ cap ∧ cap ≤ maxLen ∧ (0 < n → ∃ g, A = some ⟨g, 0, none⟩ ∧ base ≤ g ∧ g < w.heap.size) := by
  rcases h.2 with ⟨rfl, rfl⟩ | ⟨g, cap, cur, rfl, h1, h2, h3, h4, h5, h6⟩
  · exact ⟨none, 0, rfl, Nat.le_refl _, Nat.zero_le _, fun h => absurd h (Nat.lt_irrefl 0)⟩
  · exact ⟨some ⟨g, 0, none⟩, cap, rfl, h3, h4, fun _ => ⟨g, rfl, h1, (Array.getElem?_eq_some_iff.1 h2).1⟩⟩
theorem tok_read {w : World} {base n N : Nat} {v : Value} {D : List Tk} (h : w.ownsRow base 30 4 v n (tkl N D)) (hn : D.length = n) : ∃ A c, v = .slice A n c ∧ n ≤ c ∧ c ≤ maxLen ∧ TokR w A N D := by
  obtain ⟨A, c, rfl, h1, h2, h3⟩ := own_formN h
  refine ⟨A, c, rfl, h1, h2, fun k hk => ?_⟩
  obtain ⟨g, rfl, -, hg⟩ := h3 (by omega)
  have hc : ∀ r, r < 4 → w.cell? ⟨g, k * 4 + r, none⟩ = (tkv N (D.getD k tk0))[r]? := fun r hr => by
    rw [World.ownsRow.cellAt h (k * 4 + r) (by omega), tkl_at N D k r hk hr]
  exact ⟨g, rfl, hg, hc 0 (by omega), hc 1 (by omega), hc 2 (by omega), hc 3 (by omega)⟩
end Go.Proofs.YtkdimbpmgngajaaDoor.Lx
