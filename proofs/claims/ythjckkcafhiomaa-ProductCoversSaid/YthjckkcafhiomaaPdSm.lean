/- Walks of the reference: Has, SameTexts, SamePriced. -/
import Derived.Test.YthjckkcafhiomaaPdFe
import Derived.Laws.StructEq
namespace Go.Proofs.Ythjckkcafhiomaa.Pd
open Go.RowKit

def hasT (l : List ByteArray) (s : ByteArray) : Bool := l.any fun x => decide (x = s)
theorem hasT_yes {l : List ByteArray} {s : ByteArray} {k : Nat} (h : k < l.length) (hq : decide (l.getD k zs0 = s) = true) : hasT l s = true := by
  unfold hasT; rw [List.any_eq_true]
  exact ⟨l[k], List.getElem_mem _, by simpa [List.getD, List.getElem?_eq_getElem h] using hq⟩
theorem hasT_no {l : List ByteArray} {s : ByteArray} (h : ∀ k, k < l.length → decide (l.getD k zs0 = s) = false) : hasT l s = false := by
  unfold hasT; rw [List.any_eq_false]
  intro x hx
  obtain ⟨k, hk, rfl⟩ := List.mem_iff_getElem.1 hx
  simpa [List.getD, List.getElem?_eq_getElem hk] using h k hk
theorem has_any (A : Option Addr) (n c : Nat) (l : List ByteArray) (s : ByteArray) (w : World) (hA : ZsR w A l) (hn : l.length = n) (hm : n ≤ maxLen) :
    Calls Try.prog 22 #[.slice A n c, .string s] w fun e w' => e = .returned (.bool (hasT l s)) ∧ w = w' := by
  unfold maxLen at hm
  have HA := Lib.hid hA; have HN := Lib.hid hn
  clear hA hn
  go_enter Try.func22, Try.ntmps22
  go_wp2_with fail
  go_loopw [5] (fun iv wr => ∃ k : Nat, iv = .int .i64 k ∧ k ≤ n ∧ wr = w ∧ Hid (∀ j, j < k → decide (l.getD j zs0 = s) = false)) (fun iv _ => n - (intOf iv).toNat)
  case atStart => exact ⟨0, rfl, by omega, rfl, Lib.hid fun j h => absurd h (Nat.not_lt_zero j)⟩
  case round =>
    obtain ⟨k, rfl, hk, rfl, HO⟩ := hrel
    by_cases hlt : k < n
    · have hkl : k < l.length := by rw [HN.out]; exact hlt
      have hlt' : (k : Int) < (n : Int) := by omega
      obtain ⟨bk, off, rfl, hbl, e0, -⟩ := HA.out k hkl
      obtain ⟨v, hv⟩ : ∃ v, decide (l.getD k zs0 = s) = v := ⟨_, rfl⟩
      have hq := sEq_is hv
      have HV := Lib.hid hv; have HKL := Lib.hid hkl
      obtain ⟨x, hx⟩ : ∃ x, l.getD k zs0 = x := ⟨_, rfl⟩
      rw [hx] at e0 hq
      clear hv hx hbl hkl
      cases v
      · have HO2 : Hid (∀ j, j < k + 1 → decide (l.getD j zs0 = s) = false) := Lib.hid fun j h => by
          rcases Nat.lt_or_ge j k with h | h
          · exact HO.out j h
          · obtain rfl : j = k := by omega
            exact HV.out
        go_wp2_with fail
        go_roundw
        case rel => exact ⟨k + 1, by go_num, by omega, by simp, HO2⟩
        case measure => simp [intOf]; omega
      · have HR := Lib.hid (hasT_yes HKL.out HV.out)
        go_wp2_with fail
        go_ret
        exact ⟨ret_bool HR.out.symm, rfl⟩
    · obtain rfl : k = n := by omega
      have HR := Lib.hid (hasT_no (l := l) (s := s) (by rw [HN.out]; exact HO.out))
      go_wp2_with fail
      go_ret
      exact ⟨ret_bool HR.out.symm, rfl⟩
theorem has_is (A : Option Addr) (n c : Nat) (l : List ByteArray) (s : ByteArray) (v : Bool) (h : hasT l s = v) (w : World) (hA : ZsR w A l) (hn : l.length = n) (hm : n ≤ maxLen) :
    Calls Try.prog 22 #[.slice A n c, .string s] w fun e w' => e = .returned (.bool v) ∧ w = w' := by
  subst h; exact has_any A n c l s w hA hn hm
theorem sameTexts_yes (A B : Option Addr) (n c c' : Nat) (l : List ByteArray) (w : World) (hA : ZsR w A l) (hB : ZsR w B l) (hn : l.length = n) (hm : n ≤ maxLen) :
    Calls Try.prog 16 #[.slice A n c, .slice B n c'] w fun e w' => e = .returned (.bool true) ∧ Below w.heap.size w w' := by
  unfold maxLen at hm
  have HA := Lib.hid hA; have HB := Lib.hid hB; have HN := Lib.hid hn
  clear hA hB hn
  go_enter Try.func16, Try.ntmps16
  go_wp2_with fail
  go_loopw [5] (fun iv wr => ∃ k q : Nat, iv = .int .i64 k ∧ k ≤ n ∧ wr = w.drewN q) (fun iv _ => n - (intOf iv).toNat)
  case atStart => exact ⟨0, 0, rfl, by omega, rfl⟩
  case round =>
    obtain ⟨k, q, rfl, hk, rfl⟩ := hrel
    by_cases hlt : k < n
    · have hkl : k < l.length := by rw [HN.out]; exact hlt
      have hlt' : (k : Int) < (n : Int) := by omega
      obtain ⟨ba, oa, rfl, _, a0, -⟩ := HA.out k hkl
      obtain ⟨bb, ob, rfl, _, b0, -⟩ := HB.out k hkl
      obtain ⟨x, hx⟩ : ∃ x, l.getD k zs0 = x := ⟨_, rfl⟩
      rw [hx] at a0 b0
      have hq := sEq_is (x := x) (y := x) (v := true) (by simp)
      clear hx hkl
      go_wp2_with fail
      go_quiet (fail)
      go_wp2_with fail
      go_roundw
      case rel => exact ⟨k + 1, _, by go_num, by omega, rfl⟩
      case measure => simp [intOf]; omega
    · obtain rfl : k = n := by omega
      go_wp2_with fail
      go_ret
      exact ⟨rfl, below_drewN (Below.refl _ _) _⟩
theorem eqPriced_same (m a b : Int) (w : World) : (binOp .eql 44 (.agg #[.int .i64 m, .int .i64 a, .int .i64 b]) (.agg #[.int .i64 m, .int .i64 a, .int .i64 b])).run Try.prog w = .ok (.bool true) w := by
  have u3 := Try.underlying3
  have a3 := Try.isAgg3
  have z3 := Try.sizeOf3
  have hS : Try.prog.underlying 44 = some (.struct (Try.prog.fieldsOf 44)) := by kernel_rfl
  have hp : Try.prog.stoodInHeld 44 = false := by kernel_rfl
  have hS2 : Try.prog.underlying 38 = some (.struct (Try.prog.fieldsOf 38)) := by kernel_rfl
  have hp2 : Try.prog.stoodInHeld 38 = false := by kernel_rfl
  have aP := Try.isAgg38
  have zP := Try.sizeOf38
  rw [run_eql_struct]
  obtain ⟨d, hd⟩ : ∃ d, 10000 = d + 1 + 1 + 1 + 1 := ⟨9996, rfl⟩
  rw [hd, run_equalIn_agg w (d + 1 + 1 + 1) 44 _ _ hS hp]
  have h2 : ∀ xs ys, (Op.equalIn (d + 1 + 1 + 1) 38 (.agg xs) (.agg ys)).run Try.prog w = (Op.eqFields (d + 1 + 1) xs ys (Try.prog.fieldsOf 38).toList).run Try.prog w := fun xs ys => run_equalIn_agg w (d + 1 + 1) 38 xs ys hS2 hp2
  simp only [Program.fieldsOf, Try.underlying44, Try.underlying38] at h2 ⊢
  clear hd hS hS2 hp hp2
  go_simp
theorem neqPriced_same (m a b : Int) (w : World) : (binOp .neq 44 (.agg #[.int .i64 m, .int .i64 a, .int .i64 b]) (.agg #[.int .i64 m, .int .i64 a, .int .i64 b])).run Try.prog w = .ok (.bool false) w := by
  have u3 := Try.underlying3
  have a3 := Try.isAgg3
  have z3 := Try.sizeOf3
  have hS : Try.prog.underlying 44 = some (.struct (Try.prog.fieldsOf 44)) := by kernel_rfl
  have hp : Try.prog.stoodInHeld 44 = false := by kernel_rfl
  have hS2 : Try.prog.underlying 38 = some (.struct (Try.prog.fieldsOf 38)) := by kernel_rfl
  have hp2 : Try.prog.stoodInHeld 38 = false := by kernel_rfl
  have aP := Try.isAgg38
  have zP := Try.sizeOf38
  rw [run_neq_struct]
  obtain ⟨d, hd⟩ : ∃ d, 10000 = d + 1 + 1 + 1 + 1 := ⟨9996, rfl⟩
  rw [hd, run_equalIn_agg w (d + 1 + 1 + 1) 44 _ _ hS hp]
  have h2 : ∀ xs ys, (Op.equalIn (d + 1 + 1 + 1) 38 (.agg xs) (.agg ys)).run Try.prog w = (Op.eqFields (d + 1 + 1) xs ys (Try.prog.fieldsOf 38).toList).run Try.prog w := fun xs ys => run_equalIn_agg w (d + 1 + 1) 38 xs ys hS2 hp2
  simp only [Program.fieldsOf, Try.underlying44, Try.underlying38] at h2 ⊢
  clear hd hS hS2 hp hp2
  go_simp
theorem guardPriced : Try.prog.eqGuardType Try.prog.depth 44 = false := by kernel_rfl
/-- A slice that reads as a list of fees. -/
def FdR (w : World) (A : Option Addr) (l : List Fd) : Prop :=
  ∀ k, k < l.length → ∃ b off, A = some ⟨b, off, none⟩ ∧ b < w.heap.size ∧ w.cell? ⟨b, off + k * 3, none⟩ = some (.int .i64 (l.getD k fd0).1) ∧ w.cell? ⟨b, off + k * 3 + 1, none⟩ = some (.int .i64 (l.getD k fd0).2.1) ∧ w.cell? ⟨b, off + k * 3 + 2, none⟩ = some (.int .i64 (l.getD k fd0).2.2)
theorem FdR.below {w w' : World} {A : Option Addr} {l : List Fd} (h : FdR w A l) (hb : Below w.heap.size w w') : FdR w' A l := fun k hk => by
  obtain ⟨b, off, e, h1, h2, h3, h4⟩ := h k hk
  exact ⟨b, off, e, Nat.lt_of_lt_of_le h1 hb.size, (hb.cell (p := ⟨b, off + k * 3, none⟩) h1).trans h2, (hb.cell (p := ⟨b, off + k * 3 + 1, none⟩) h1).trans h3, (hb.cell (p := ⟨b, off + k * 3 + 2, none⟩) h1).trans h4⟩
theorem FdR.nil {w : World} {A : Option Addr} : FdR w A [] := fun k hk => absurd hk (Nat.not_lt_zero k)
theorem fdl_cons (r : Fd) (l : List Fd) : fdl (r :: l) = .int .i64 r.1 :: .int .i64 r.2.1 :: .int .i64 r.2.2 :: fdl l := rfl
theorem fdl_at : ∀ {l : List Fd} {k : Nat}, k < l.length → (fdl l)[k * 3]? = some (.int .i64 (l.getD k fd0).1) ∧ (fdl l)[k * 3 + 1]? = some (.int .i64 (l.getD k fd0).2.1) ∧ (fdl l)[k * 3 + 2]? = some (.int .i64 (l.getD k fd0).2.2)
  | [], k, h => absurd h (Nat.not_lt_zero k)
  | r :: l, 0, _ => ⟨rfl, rfl, rfl⟩
  | r :: l, k + 1, h => by
    have := fdl_at (l := l) (k := k) (by simpa using h)
    rw [fdl_cons, show (k + 1) * 3 = k * 3 + 1 + 1 + 1 by omega]
    simpa using this
theorem fd_own {w : World} {base n : Nat} {v : Value} {l : List Fd} (h : w.ownsRow base 44 3 v n (fdl l)) (hn : l.length = n) : ∃ A c, v = .slice A n c ∧ n ≤ c ∧ c ≤ maxLen ∧ FdR w A l ∧ (A = none → n = 0) := by
  rcases h.2 with ⟨rfl, rfl⟩ | ⟨g, cap, cur, rfl, hb, hg, hnc, hcm, hcs, htake⟩
  · obtain rfl : l = [] := by simpa using hn
    exact ⟨none, 0, rfl, Nat.le_refl _, Nat.zero_le _, FdR.nil, fun _ => rfl⟩
  · refine ⟨_, cap, rfl, hnc, hcm, fun k hk => ?_, (by simp)⟩
    have hlt : g < w.heap.size := (Array.getElem?_eq_some_iff.1 hg).1
    obtain ⟨a1, a2, a3⟩ := fdl_at hk
    refine ⟨g, 0, rfl, hlt, ?_, ?_, ?_⟩
    · rw [World.ownsRow.cellAt h _ (by omega), Nat.zero_add]; exact a1
    · rw [World.ownsRow.cellAt h _ (by omega), Nat.zero_add]; exact a2
    · rw [World.ownsRow.cellAt h _ (by omega), Nat.zero_add]; exact a3
theorem samePriced_yes (A B : Option Addr) (n c c' : Nat) (l : List Fd) (w : World) (hA : FdR w A l) (hB : FdR w B l) (hn : l.length = n) (hm : n ≤ maxLen) :
    Calls Try.prog 19 #[.slice A n c, .slice B n c'] w fun e w' => e = .returned (.bool true) ∧ Below w.heap.size w w' := by
  unfold maxLen at hm
  have HA := Lib.hid hA; have HB := Lib.hid hB; have HN := Lib.hid hn
  have hgd := guardPriced
  clear hA hB hn
  go_enter Try.func19, Try.ntmps19
  go_wp2_with fail
  go_loopw [5] (fun iv wr => ∃ k q : Nat, iv = .int .i64 k ∧ k ≤ n ∧ wr = w.drewN q) (fun iv _ => n - (intOf iv).toNat)
  case atStart => exact ⟨0, 0, rfl, by omega, rfl⟩
  case round =>
    obtain ⟨k, q, rfl, hk, rfl⟩ := hrel
    by_cases hlt : k < n
    · have hkl : k < l.length := by rw [HN.out]; exact hlt
      have hlt' : (k : Int) < (n : Int) := by omega
      obtain ⟨ba, oa, rfl, _, a0, a1, a2⟩ := HA.out k hkl
      obtain ⟨bb, ob, rfl, _, b0, b1, b2⟩ := HB.out k hkl
      obtain ⟨⟨x, y, z⟩, hp⟩ : ∃ p, l.getD k fd0 = p := ⟨_, rfl⟩
      rw [hp] at a0 a1 a2 b0 b1 b2
      simp only at a0 a1 a2 b0 b1 b2
      have hnq := neqPriced_same x y z
      clear hp hkl
      go_wp2_with fail
      go_quiet (fail)
      go_wp2_with fail
      go_roundw
      case rel => exact ⟨k + 1, _, by go_num, by omega, rfl⟩
      case measure => simp [intOf]; omega
    · obtain rfl : k = n := by omega
      go_wp2_with fail
      go_ret
      exact ⟨rfl, below_drewN (Below.refl _ _) _⟩
end Go.Proofs.Ythjckkcafhiomaa.Pd
