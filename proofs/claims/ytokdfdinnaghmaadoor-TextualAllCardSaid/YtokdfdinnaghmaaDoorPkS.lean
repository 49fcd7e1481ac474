/- Walks: equal lists are the same; short records. -/
import Derived.Test.YtokdfdinnaghmaaDoorVaB
namespace Go.Proofs.YtokdfdinnaghmaaDoor.Va
open Go.RowKit

theorem guardRec : Tryd.prog.eqGuardType Tryd.prog.depth 23 = false := by kernel_rfl
theorem guardRej : Tryd.prog.eqGuardType Tryd.prog.depth 43 = false := by kernel_rfl
set_option maxHeartbeats 1000000 in
theorem neqRec_same (r : Rc) (w : World) : (binOp .neq 23 (.agg r.cells) (.agg r.cells)).run Tryd.prog w = .ok (.bool false) w := by
  have u3 := Tryd.underlying3
  have a3 := Tryd.isAgg3
  have z3 := Tryd.sizeOf3
  have u4 := Tryd.underlying4
  have a4 := Tryd.isAgg4
  have z4 := Tryd.sizeOf4
  have u9 := Tryd.underlying9
  have a9 := Tryd.isAgg9
  have z9 := Tryd.sizeOf9
  have hS : Tryd.prog.underlying 23 = some (.struct (Tryd.prog.fieldsOf 23)) := by kernel_rfl
  have hp : Tryd.prog.stoodInHeld 23 = false := by kernel_rfl
  unfold Rc.cells
  rw [run_neq_struct, show (10000 : Nat) = 9999 + 1 from rfl, run_equalIn_agg w 9999 23 _ _ hS hp]
  simp only [Program.fieldsOf, Tryd.underlying23]
  go_simp
theorem neqRej_same (a b c d : Int) (w : World) : (binOp .neq 43 (.agg #[.int .i64 a, .int .i64 b, .int .i64 c, .int .i64 d]) (.agg #[.int .i64 a, .int .i64 b, .int .i64 c, .int .i64 d])).run Tryd.prog w = .ok (.bool false) w := by
  have u3 := Tryd.underlying3
  have a3 := Tryd.isAgg3
  have z3 := Tryd.sizeOf3
  have u28 := Tryd.underlying26
  have a28 := Tryd.isAgg26
  have z28 := Tryd.sizeOf26
  have hS : Tryd.prog.underlying 43 = some (.struct (Tryd.prog.fieldsOf 43)) := by kernel_rfl
  have hp : Tryd.prog.stoodInHeld 43 = false := by kernel_rfl
  rw [run_neq_struct, show (10000 : Nat) = 9999 + 1 from rfl, run_equalIn_agg w 9999 43 _ _ hS hp]
  simp only [Program.fieldsOf, Tryd.underlying43]
  go_simp
set_option maxRecDepth 100000 in
set_option maxHeartbeats 8000000 in
theorem same09 (A B : Option Addr) (n c d : Nat) (l : List Rc) (w : World) (hA : RecR w A l) (hB : RecR w B l) (hn : l.length = n) (h6 : n ≤ 1000000) :
    Calls Tryd.prog 18 #[.slice A n c, .slice B n d] w fun e w' => e = .returned (.bool true) ∧ Below w.heap.size w w' := by
  have HA := Lib.hid hA; have HB := Lib.hid hB; have HN := Lib.hid hn
  clear hA hB hn
  go_enter Tryd.func18, Tryd.ntmps18
  go_wp2_with fail
  go_loopw [5] (fun iv wr => ∃ k : Nat, iv = .int .i64 k ∧ k ≤ n ∧ Below w.heap.size w wr) (fun iv _ => n - (intOf iv).toNat)
  case atStart => exact ⟨0, rfl, by omega, Below.refl _ _⟩
  case round =>
    obtain ⟨k, rfl, hk, hb⟩ := hrel
    by_cases hlt : k < n
    · have hkl : k < l.length := by rw [HN.out]; exact hlt
      obtain ⟨bk, off, rfl, hbl, hcs⟩ := (HA.out.below hb) k hkl
      obtain ⟨bq, ofq, rfl, hbm, hds⟩ := (HB.out.below hb) k hkl
      have hlt' : (k : Int) < (n : Int) := by omega
      have hk0 : (0 : Int) ≤ (k : Int) := by omega
      have nq := neqRec_same (l.getD k rc0)
      obtain ⟨⟨s0, s1, s2, sa, sb, s5, s6, s7, s8, b9, s10, b11⟩, hp⟩ : ∃ r, l.getD k rc0 = r := ⟨_, rfl⟩
      rw [hp] at hcs hds nq
      simp only [Rc.cells] at nq
      obtain ⟨e0, e1, e2, e3, e4, e5, e6, e7, e8, e9, e10, e11⟩ := hcs.all
      obtain ⟨d0, d1, d2, d3, d4, d5, d6, d7, d8, d9, d10, d11⟩ := hds.all
      simp only at e0 e1 e2 e3 e4 e5 e6 e7 e8 e9 e10 e11 d0 d1 d2 d3 d4 d5 d6 d7 d8 d9 d10 d11
      have gq := guardRec
      clear hp hkl hcs hds hbl hbm
      go_wp2_with fail
      go_quiet (fail)
      go_wp2_with fail
      go_roundw
      case rel => exact ⟨k + 1, by go_num, by omega, below_drewN hb _⟩
      case measure => simp [intOf]; omega
    · obtain rfl : k = n := by omega
      go_wp2_with fail
      go_ret
      exact ⟨rfl, hb⟩
set_option maxRecDepth 100000 in
set_option maxHeartbeats 8000000 in
theorem sameRej09 (A B : Option Addr) (n c d : Nat) (l : List Rj) (w : World) (hA : RjR w A l) (hB : RjR w B l) (hn : l.length = n) (h6 : n ≤ 1000000) :
    Calls Tryd.prog 19 #[.slice A n c, .slice B n d] w fun e w' => e = .returned (.bool true) ∧ Below w.heap.size w w' := by
  have HA := Lib.hid hA; have HB := Lib.hid hB; have HN := Lib.hid hn
  clear hA hB hn
  go_enter Tryd.func19, Tryd.ntmps19
  go_wp2_with fail
  go_loopw [5] (fun iv wr => ∃ k : Nat, iv = .int .i64 k ∧ k ≤ n ∧ Below w.heap.size w wr) (fun iv _ => n - (intOf iv).toNat)
  case atStart => exact ⟨0, rfl, by omega, Below.refl _ _⟩
  case round =>
    obtain ⟨k, rfl, hk, hb⟩ := hrel
    by_cases hlt : k < n
    · have hkl : k < l.length := by rw [HN.out]; exact hlt
      obtain ⟨bk, off, rfl, hbl, e0, e1, e2, e3⟩ := (HA.out.below hb) k hkl
      obtain ⟨bq, ofq, rfl, hbm, d0, d1, d2, d3⟩ := (HB.out.below hb) k hkl
      have hlt' : (k : Int) < (n : Int) := by omega
      have hk0 : (0 : Int) ≤ (k : Int) := by omega
      obtain ⟨⟨x0, x1, x2, x3⟩, hp⟩ : ∃ r, l.getD k rj0 = r := ⟨_, rfl⟩
      rw [hp] at e0 e1 e2 e3 d0 d1 d2 d3
      simp only at e0 e1 e2 e3 d0 d1 d2 d3
      have nq := neqRej_same x0 x1 x2 x3
      have gq := guardRej
      clear hp hkl hbl hbm
      go_wp2_with fail
      go_quiet (fail)
      go_wp2_with fail
      go_roundw
      case rel => exact ⟨k + 1, by go_num, by omega, below_drewN hb _⟩
      case measure => simp [intOf]; omega
    · obtain rfl : k = n := by omega
      go_wp2_with fail
      go_ret
      exact ⟨rfl, hb⟩
end Go.Proofs.YtokdfdinnaghmaaDoor.Va
