/- Walk of the reference: Same; what its Scan gives. -/
import Derived.Test.YtkdimbpmgngajaaDoorLxRz
namespace Go.Proofs.YtkdimbpmgngajaaDoor.Lx
open Go Go.Lib Go.RowKit Go.Proofs.YtkdimbpmgngajaaDoor Go.Maps

theorem refScn_good (s : ByteArray) (w : World) (hs : s.size ≤ maxLen) {D : List Tk} {n : Nat} (h : scnP s.data.toList = .ok D) (hn : D.length = n) : Calls Tryd.prog 11 #[.string s] w fun e w' => ∃ (A : Option Addr) (c : Nat), e = .returned (.tuple #[.slice A n c, .int .i64 0, .int .i64 0]) ∧ n ≤ c ∧ c ≤ maxLen ∧ TokR w' A s.size D ∧ Below w.heap.size w w' := by
  have h1 := refScan_any s w hs
  rw [h] at h1
  unfold ScnO at h1
  simp only at h1
  refine h1.mono ?_
  rintro e w' ⟨v, rfl, ho, hb⟩
  rw [hn] at ho
  obtain ⟨A, c, rfl, h1, h2, h3⟩ := tok_read ho hn
  exact ⟨A, c, rfl, h1, h2, h3, hb⟩
theorem refScn_bad (s : ByteArray) (w : World) (hs : s.size ≤ maxLen) {m n p : Nat} (h : scnP s.data.toList = .error (m, n)) (hp : s.size - m = p) : Calls Tryd.prog 11 #[.string s] w fun e w' => e = .returned (.tuple #[.slice none 0 0, .int .i64 p, .int .i64 n]) ∧ Below w.heap.size w w' := by
  have h1 := refScan_any s w hs
  rw [h] at h1
  unfold ScnO at h1
  simp only at h1
  rw [hp] at h1
  exact h1
/-- A token in a list. -/
def TokA (w : World) (A : Option Addr) (i : Nat) (k n q : Int) (X : ByteArray) : Prop := ∃ b, A = some ⟨b, 0, none⟩ ∧ w.cell? ⟨b, i * 4, none⟩ = some (.int .i64 k) ∧ w.cell? ⟨b, i * 4 + 1, none⟩ = some (.int .i64 n) ∧ w.cell? ⟨b, i * 4 + 2, none⟩ = some (.int .i64 q) ∧ w.cell? ⟨b, i * 4 + 3, none⟩ = some (.string X)
theorem TokR.at_ {w : World} {A : Option Addr} {N i : Nat} {D : List Tk} (h : TokR w A N D) (hi : i < D.length) : TokA w A i (D.getD i tk0).k (numV (D.getD i tk0).k (D.getD i tk0).tx) ((N - (D.getD i tk0).rem : Nat) : Int) ⟨⟨(D.getD i tk0).tx⟩⟩ := by
  obtain ⟨b, e, -, h1, h2, h3, h4⟩ := h i hi
  exact ⟨b, e, h1, h2, h3, h4⟩
set_option maxRecDepth 100000 in
set_option maxHeartbeats 8000000 in
theorem refSame_yes (A B : Option Addr) (n c c' : Nat) (w : World) (hn : n ≤ maxLen) (h : ∀ i, i < n → ∃ k v q X, TokA w A i k v q X ∧ TokA w B i k v q X) : Calls Tryd.prog 12 #[.slice A n c, .slice B n c'] w fun e w' => e = .returned (.bool true) ∧ ∃ m, w' = w.drewN m := by
  unfold maxLen at hn
  have HH := Lib.hid h
  have hnn : ((n : Int) != (n : Int)) = false := by rw [bne_self_eq_false]
  clear h
  go_enter Tryd.func12, Tryd.ntmps12
  go_wp2_with fail
  go_loopw [5] (fun iv wr => ∃ i m : Nat, iv = .int .i64 i ∧ i ≤ n ∧ wr = w.drewN m) (fun iv _ => n - (RowKit.intOf iv).toNat)
  case atStart => exact ⟨0, 0, rfl, by omega, rfl⟩
  case round =>
    obtain ⟨i, m, rfl, hi, rfl⟩ := hrel
    by_cases hlt : i < n
    · have hlt' : (i : Int) < (n : Int) := by omega
      have hi0 : (0 : Int) ≤ (i : Int) := by omega
      obtain ⟨k, v, q, X, ⟨b, rfl, a0, a1, a2, a3⟩, ⟨b', rfl, d0, d1, d2, d3⟩⟩ := HH.out i hlt
      have hnq := neqTk_same k v q X
      have hgd := guardTk
      have a0 : (w.drewN m).cell? ⟨b, i * 4, none⟩ = some (.int .i64 k) := a0
      have a1 : (w.drewN m).cell? ⟨b, i * 4 + 1, none⟩ = some (.int .i64 v) := a1
      have a2 : (w.drewN m).cell? ⟨b, i * 4 + 2, none⟩ = some (.int .i64 q) := a2
      have a3 : (w.drewN m).cell? ⟨b, i * 4 + 3, none⟩ = some (.string X) := a3
      have d0 : (w.drewN m).cell? ⟨b', i * 4, none⟩ = some (.int .i64 k) := d0
      have d1 : (w.drewN m).cell? ⟨b', i * 4 + 1, none⟩ = some (.int .i64 v) := d1
      have d2 : (w.drewN m).cell? ⟨b', i * 4 + 2, none⟩ = some (.int .i64 q) := d2
      have d3 : (w.drewN m).cell? ⟨b', i * 4 + 3, none⟩ = some (.string X) := d3
      generalize hW : World.drewN w m = W at a0 a1 a2 a3 d0 d1 d2 d3
      go_wp2_with fail
      go_quiet (fail)
      go_wp2_with fail
      go_roundw
      case rel => exact ⟨i + 1, _, by go_num, by omega, by rw [← hW, World.drewN_drewN]⟩
      case measure => simp [RowKit.intOf]; omega
    · obtain rfl : i = n := by omega
      have hd : decide ((i : Int) < (i : Int)) = false := decide_eq_false (by omega)
      go_wp2_with fail
      go_ret
      exact ⟨rfl, m, rfl⟩
end Go.Proofs.YtkdimbpmgngajaaDoor.Lx
