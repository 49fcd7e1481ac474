/- Walks: the names of the kinds. -/
import Derived.Test.YtpmcmafbfboocaaDoorVaE
import Derived.LaidMore
import Derived.Lib.LaidTab
import Derived.Stop.Joined
import Derived.SizedLaws
import Derived.OpenShut
namespace Go.Proofs.YtpmcmafbfboocaaDoor.Va
open Go.ChangeShapes Go.WideShapes Go.ChangeAt Go.RowKit

theorem own : ownKnob Tryd.prog.godebug = none := by kernel_rfl
theorem laidOut : laidOutB Tryd.prog = true := by kernel_rfl
abbrev laidL : List (String × DataW Unit) := [("billing/validate.kindNames", Rows.laid_billing_validate_kindNames)]
theorem door_met (os : Os) (args : Array Value) : laidMetH Tryd.prog laidL ((World.doorLaid Tryd.prog 400 os).forCall (fun _ _ => 0) ⟨#[], args, []⟩).memory :=
  laidMetH_of_parts3 (fuel := 8) (laidMet_of_run' 8 (by kernel_rfl) (by kernel_rfl)) (by kernel_rfl) (by kernel_rfl)
/-- The name of kind k. -/
def nmA : Nat → ByteArray
  | 1 => ⟨#[118, 111, 105, 99, 101]⟩
  | 2 => ⟨#[116, 101, 120, 116]⟩
  | 3 => ⟨#[100, 97, 116, 97]⟩
  | 4 => ⟨#[99, 111, 110, 116, 101, 110, 116]⟩
  | _ => ⟨#[]⟩
/-- The table of names lies in memory. -/
def KN (w : World) : Prop := ∀ i : Nat, i < 5 → w.cell? ⟨0, i, none⟩ = some (.string (nmA i))
theorem KN.lt {w : World} (h : KN w) : 0 < w.heap.size := cell_block_lt (h 0 (by decide))
theorem KN.below {w w' : World} (h : KN w) (hb : Below w.heap.size w w') : KN w' := fun i hi => (hb.cell (p := ⟨0, i, none⟩) h.lt).trans (h i hi)
theorem ba_of {s : ByteArray} {l : List UInt8} (h : s.data.toList = l) : s = ⟨l.toArray⟩ := by
  obtain ⟨⟨d⟩⟩ := s
  have h : d = l := h
  subst h; rfl
theorem of_laid {W : World} (h : laidMetH Tryd.prog laidL W) : KN W := by
  rw [MakeChecks.laidMetH_plain _ _ _ (by kernel_rfl)] at h
  have g : Tryd.prog.globalNamed "billing/validate.kindNames" = some 0 := by kernel_rfl
  have hty : (Tryd.prog.globals[0]?).map (·.type) = some 47 := by kernel_rfl
  obtain ⟨ps, ⟨g', t', cs, fuel, p, q, hg', ht', hvar, hd, _, _⟩, _⟩ := h
  obtain rfl := Option.some.inj (g.symm.trans hg')
  obtain rfl := Option.some.inj (hty.symm.trans ht')
  obtain ⟨xs, m, _, hx, hcl, hl, hel⟩ := DataW.trod_array Tryd.underlying47 hd
  have hC1 : Tryd.prog.cellsOf 9 = 1 := by kernel_rfl
  have hxs : xs.map (·.1) = [.lit (.string []), .lit (.string [118, 111, 105, 99, 101]), .lit (.string [116, 101, 120, 116]), .lit (.string [100, 97, 116, 97]), .lit (.string [99, 111, 110, 116, 101, 110, 116])] := by
    have := congrArg Prod.fst hx
    simpa [Rows.laid_billing_validate_kindNames] using this.symm
  intro i hi
  rw [World.var?_cell g hvar i]
  have h0 := hel i hi
  rw [hC1] at h0
  have e0 : xs[i]? = some (xs[i]'(by rw [hl]; exact hi)) := List.getElem?_eq_getElem _
  rw [e0] at h0
  obtain ⟨s, hs, hxi, _⟩ := DataW.trod_string Tryd.underlying9 h0
  have h1 : cs[i]? = some (.string s) := by
    have := congrArg (·[0]?) hs
    simpa [List.getElem?_take, List.getElem?_drop] using this
  have h2 : (xs.map (·.1))[i]? = some (.lit (.string s.data.toList)) := by simp [e0, hxi]
  rw [hxs] at h2
  rw [h1]
  congr 2
  match i, hi with
  | 0, _ => exact ba_of (by simpa using h2.symm)
  | 1, _ => exact ba_of (by simpa using h2.symm)
  | 2, _ => exact ba_of (by simpa using h2.symm)
  | 3, _ => exact ba_of (by simpa using h2.symm)
  | 4, _ => exact ba_of (by simpa using h2.symm)
theorem sEq (x y : ByteArray) : (x.toList == y.toList) = decide (x = y) := by
  rw [ByteArray.toList_eq, ByteArray.toList_eq]
  by_cases h : x = y
  · subst h; simp
  · rw [decide_eq_false h]
    obtain ⟨⟨x⟩⟩ := x
    obtain ⟨⟨y⟩⟩ := y
    simp at h ⊢
    exact h
/-- The name of any number. -/
def nmZ (k : Int) : ByteArray := if k = 1 then nmA 1 else if k = 2 then nmA 2 else if k = 3 then nmA 3 else if k = 4 then nmA 4 else ⟨#[]⟩
theorem name_any (k : Int) (w : World) (hK : KN w) : Calls Tryd.prog 19 #[.int .i64 k] w fun e w' => e = .returned (.string (nmZ k)) ∧ w = w' := by
  have k0 := hK 0 (by decide); have k1 := hK 1 (by decide); have k2 := hK 2 (by decide); have k3 := hK 3 (by decide); have k4 := hK 4 (by decide)
  clear hK
  by_cases h0 : k < 0
  · rw [show nmZ k = ⟨#[]⟩ by unfold nmZ; rw [if_neg (by omega), if_neg (by omega), if_neg (by omega), if_neg (by omega)]]
    go_enter Tryd.func19, Tryd.ntmps19
    go_wp2
    go_ret
    exact ⟨rfl, rfl⟩
  · by_cases h5 : 5 ≤ k
    · rw [show nmZ k = ⟨#[]⟩ by unfold nmZ; rw [if_neg (by omega), if_neg (by omega), if_neg (by omega), if_neg (by omega)]]
      go_enter Tryd.func19, Tryd.ntmps19
      go_wp2
      go_ret
      exact ⟨rfl, rfl⟩
    · rcases (by omega : k = 0 ∨ k = 1 ∨ k = 2 ∨ k = 3 ∨ k = 4) with rfl | rfl | rfl | rfl | rfl
      all_goals
        clear h0 h5
        go_enter Tryd.func19, Tryd.ntmps19
        go_wp2
        go_ret
        exact ⟨rfl, rfl⟩
theorem refName_any (k : Int) (w : World) : Calls Tryd.prog 20 #[.int .i64 k] w fun e w' => e = .returned (.string (nmZ k)) ∧ w = w' := by
  by_cases h1 : k = 1
  · subst h1
    go_enter Tryd.func20, Tryd.ntmps20
    go_wp2
    go_ret
    exact ⟨rfl, rfl⟩
  · by_cases h2 : k = 2
    · subst h2
      clear h1
      go_enter Tryd.func20, Tryd.ntmps20
      go_wp2
      go_ret
      exact ⟨rfl, rfl⟩
    · by_cases h3 : k = 3
      · subst h3
        clear h1 h2
        go_enter Tryd.func20, Tryd.ntmps20
        go_wp2
        go_ret
        exact ⟨rfl, rfl⟩
      · by_cases h4 : k = 4
        · subst h4
          clear h1 h2 h3
          go_enter Tryd.func20, Tryd.ntmps20
          go_wp2
          go_ret
          exact ⟨rfl, rfl⟩
        · rw [show nmZ k = ⟨#[]⟩ by unfold nmZ; rw [if_neg h1, if_neg h2, if_neg h3, if_neg h4]]
          go_enter Tryd.func20, Tryd.ntmps20
          go_wp2
          go_ret
          exact ⟨rfl, rfl⟩
/-- The kind of a name. -/
def knd (s : ByteArray) : Int := if s = nmA 1 then 1 else if s = nmA 2 then 2 else if s = nmA 3 then 3 else if s = nmA 4 then 4 else 0
theorem nm_ne {i j : Nat} (hi : i < 5) (hj : j < 5) (h : i ≠ j) : nmA i ≠ nmA j := by
  have key : ∀ i j : Fin 5, i ≠ j → nmA i.val ≠ nmA j.val := by decide
  exact key ⟨i, hi⟩ ⟨j, hj⟩ (fun e => h (by simpa using e))
theorem knd_at {s : ByteArray} {k : Nat} (hk : k < 5) (h : nmA k = s) : knd s = (k : Int) := by
  subst h
  have key : ∀ k : Fin 5, knd (nmA k.val) = (k.val : Int) := by decide
  exact key ⟨k, hk⟩
theorem knd_none {s : ByteArray} (h : ∀ j, 1 ≤ j → j < 5 → nmA j ≠ s) : knd s = 0 := by
  unfold knd
  rw [if_neg (fun e => h 1 (by omega) (by omega) e.symm), if_neg (fun e => h 2 (by omega) (by omega) e.symm), if_neg (fun e => h 3 (by omega) (by omega) e.symm), if_neg (fun e => h 4 (by omega) (by omega) e.symm)]
set_option maxHeartbeats 4000000 in
theorem kind_any (s : ByteArray) (w : World) (hK : KN w) : Calls Tryd.prog 21 #[.string s] w fun e w' => e = .returned (.int .i64 (knd s)) ∧ w = w' := by
  have HK := Lib.hid hK
  clear hK
  go_enter Tryd.func21, Tryd.ntmps21
  go_wp2_with fail
  go_loop [4] (fun iv => ∃ k : Nat, iv = .int .i64 k ∧ k ≤ 5 ∧ Hid (∀ j, j < k → nmA j ≠ s)) (fun iv => 5 - (intOf iv).toNat)
  case atStart => exact ⟨0, rfl, by omega, Lib.hid fun j h => absurd h (Nat.not_lt_zero j)⟩
  case round =>
    obtain ⟨k, rfl, hk, HO⟩ := hrel
    by_cases hlt : k < 5
    · have hc := HK.out k hlt
      have hlt' : (k : Int) < 5 := by omega
      have hq := sEq (nmA k) s
      obtain ⟨v, hv⟩ : ∃ v, decide (nmA k = s) = v := ⟨_, rfl⟩
      rw [hv] at hq
      have HV := Lib.hid hv
      obtain ⟨x, hx⟩ : ∃ x, nmA k = x := ⟨_, rfl⟩
      rw [hx] at hc hq
      clear hv hx
      cases v
      · have HO2 : Hid (∀ j, j < k + 1 → nmA j ≠ s) := Lib.hid fun j h => by
          rcases Nat.lt_or_ge j k with h | h
          · exact HO.out j h
          · obtain rfl : j = k := by omega
            exact of_decide_eq_false HV.out
        clear HO
        go_wp2_with fail
        go_round
        case rel => exact ⟨k + 1, by go_num, by omega, HO2⟩
        case measure => simp [intOf]; omega
      · have HR := Lib.hid (knd_at hlt (of_decide_eq_true HV.out))
        clear HO
        go_wp2_with fail
        go_ret
        exact ⟨ret_int HR.out.symm, rfl⟩
    · obtain rfl : k = 5 := by omega
      have HR := Lib.hid (knd_none (s := s) (fun j _ hj => HO.out j hj))
      clear HO
      go_wp2_with fail
      go_ret
      exact ⟨ret_int HR.out.symm, rfl⟩
set_option maxHeartbeats 4000000 in
theorem refKind_any (s : ByteArray) (w : World) : Calls Tryd.prog 22 #[.string s] w fun e w' => e = .returned (.int .i64 (knd s)) ∧ w = w' := by
  have HNM := Lib.hid (fun k w => refName_any k w)
  have HNZ : Hid (∀ k : Nat, 1 ≤ k → k < 5 → nmZ k = nmA k) := Lib.hid (fun k h1 h2 => by
    rcases (by omega : k = 1 ∨ k = 2 ∨ k = 3 ∨ k = 4) with rfl | rfl | rfl | rfl <;> rfl)
  go_enter Tryd.func22, Tryd.ntmps22
  go_wp2_with fail
  go_loop [3] (fun iv => ∃ k : Nat, iv = .int .i64 k ∧ 1 ≤ k ∧ k ≤ 5 ∧ Hid (∀ j, 1 ≤ j → j < k → nmA j ≠ s)) (fun iv => 5 - (intOf iv).toNat)
  case atStart => exact ⟨1, rfl, by omega, by omega, Lib.hid fun j h1 h2 => by omega⟩
  case round =>
    obtain ⟨k, rfl, hk1, hk, HO⟩ := hrel
    by_cases hlt : k < 5
    · have hlt' : (k : Int) < 5 := by omega
      have hnm := HNM.out k w
      rw [HNZ.out k hk1 hlt] at hnm
      have hq := sEq (nmA k) s
      obtain ⟨v, hv⟩ : ∃ v, decide (nmA k = s) = v := ⟨_, rfl⟩
      rw [hv] at hq
      have HV := Lib.hid hv
      obtain ⟨x, hx⟩ : ∃ x, nmA k = x := ⟨_, rfl⟩
      rw [hx] at hnm hq
      have HNK := Lib.hid hnm
      clear hv hx hnm
      cases v
      · have HO2 : Hid (∀ j, 1 ≤ j → j < k + 1 → nmA j ≠ s) := Lib.hid fun j h1 h => by
          rcases Nat.lt_or_ge j k with h | h
          · exact HO.out j h1 h
          · obtain rfl : j = k := by omega
            exact of_decide_eq_false HV.out
        clear HO
        go_wp2_with (go_at_call 20; (with_reducible refine HNK.out.mono ?_); rintro e w1 ⟨rfl, rfl⟩)
        go_round
        case rel => exact ⟨k + 1, by go_num, by omega, by omega, HO2⟩
        case measure => simp [intOf]; omega
      · have HR := Lib.hid (knd_at hlt (of_decide_eq_true HV.out))
        clear HO
        go_wp2_with (go_at_call 20; (with_reducible refine HNK.out.mono ?_); rintro e w1 ⟨rfl, rfl⟩)
        go_ret
        exact ⟨ret_int HR.out.symm, rfl⟩
    · obtain rfl : k = 5 := by omega
      have HR := Lib.hid (knd_none (s := s) (fun j h1 hj => HO.out j h1 hj))
      clear HO
      go_wp2_with fail
      go_ret
      exact ⟨ret_int HR.out.symm, rfl⟩
end Go.Proofs.YtpmcmafbfboocaaDoor.Va
