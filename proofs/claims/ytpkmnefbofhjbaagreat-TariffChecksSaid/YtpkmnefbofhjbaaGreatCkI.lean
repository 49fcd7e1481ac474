/- Walks of the reference: the rates and the discounts of a tariff; Tariff. -/
import Derived.Test.YtpkmnefbofhjbaaGreatCkH
import Derived.Test.YtpkmnefbofhjbaaGreatCkL1
namespace Go.Proofs.YtpkmnefbofhjbaaGreat.Ck
open Go Go.Lib Go.RowKit Go.Proofs.YtpkmnefbofhjbaaGreat Go.Maps

theorem sE0 (x : ByteArray) : (x.toList == []) = x.toList.isEmpty := by cases x.toList <;> rfl
theorem anyAll {α : Type} {l : List α} {p : α → Bool} {d : α} (h : ∀ j, j < l.length → p (l.getD j d) = false) : l.any p = false := by
  rw [List.any_eq_false]
  intro x hx
  obtain ⟨j, hj, rfl⟩ := List.mem_iff_getElem.1 hx
  have := h j hj
  simpa [List.getD, List.getElem?_eq_getElem hj] using this
theorem anyOne {α : Type} {l : List α} {p : α → Bool} {d : α} {k : Nat} (hk : k < l.length) (h : p (l.getD k d) = true) : l.any p = true := by
  rw [List.any_eq_true]
  exact ⟨l[k], List.getElem_mem _, by simpa [List.getD, List.getElem?_eq_getElem hk] using h⟩
set_option maxRecDepth 100000 in
set_option maxHeartbeats 8000000 in
theorem refZone_any (t : Tf) (x : ByteArray) (v : Bool) (hv : zkn t.zl x = v) (w : World) (hN : TfN t) (hT : TfR w t) :
    Calls Tryz.prog 89 #[.agg t.cells, .string x] w fun e w' => e = .returned (.bool v) ∧ Below w.heap.size w w' := by
  obtain ⟨W1, hW1⟩ : ∃ W, w.alloc (.cells t.cells 32) = W := ⟨_, rfl⟩
  obtain ⟨g, hg⟩ : ∃ g, w.heap.size = g := ⟨_, rfl⟩
  have hbk : Blk W1 g 32 t.cells := hW1 ▸ hg ▸ Blk.new w _ _
  have hb1 : Below w.heap.size w W1 := hW1 ▸ below_one w _
  have HB1 := Lib.hid hb1; have HBK := Lib.hid hbk
  have HA := Lib.hid (hT.z.below hb1); have HL := Lib.hid hN.zl
  have hmx := hN.zm; have hcx := hN.zc
  unfold maxLen at hmx
  have HV := Lib.hid hv
  obtain ⟨tnm, tfr, tsp, ZA, zln, zcp, zl, BA, bln, bcp, bl, RA, rn, rc, rl, DA, dn, dc, dl⟩ := t
  simp only [Tf.cells] at HBK HA HL HV hW1 hmx hcx ⊢
  obtain ⟨a0, a1, a2, a3, a4, a5, a6⟩ := seven HBK.out
  clear hN hT hbk hb1 hv
  go_enter Tryz.func89, Tryz.ntmps89
  go_wp2_with fail
  go_loopw [5] (fun iv wr => ∃ k : Nat, iv = .int .i64 k ∧ k ≤ zln ∧ wr = W1 ∧ Hid (∀ j, j < k → Zn.nmE x.data.toList (zl.getD j Zn.zm0) = false)) (fun iv _ => zln - (RowKit.intOf iv).toNat)
  case atStart => exact ⟨0, rfl, by omega, rfl, Lib.hid fun j h => absurd h (Nat.not_lt_zero j)⟩
  case round =>
    obtain ⟨k, rfl, hk, rfl, HO⟩ := hrel
    by_cases hlt : k < zln
    · have hlt' : (k : Int) < (zln : Int) := by omega
      have hkl : k < zl.length := by rw [HL.out]; exact hlt
      obtain ⟨bk, off, P, c, rfl, hbl, e0, e1, _⟩ := HA.out k hkl
      obtain ⟨z, hz⟩ : ∃ z, (zl.getD k Zn.zm0).nm = z := ⟨_, rfl⟩
      rw [hz] at e0
      obtain ⟨q, hq⟩ : ∃ q, (z.toList == x.toList) = q := ⟨_, rfl⟩
      have HQ : Hid (Zn.nmE x.data.toList (zl.getD k Zn.zm0) = q) := Lib.hid (by unfold Zn.nmE; rw [hz, ← hq, Zn.sEq])
      have HKL := Lib.hid hkl
      clear hz hkl
      cases q
      · have HO2 : Hid (∀ j, j < k + 1 → Zn.nmE x.data.toList (zl.getD j Zn.zm0) = false) := Lib.hid fun j h => by
          rcases Nat.lt_or_ge j k with h | h
          · exact HO.out j h
          · obtain rfl : j = k := by omega
            exact HQ.out
        go_wp2_with fail
        go_roundw
        case rel => exact ⟨k + 1, by go_num, by omega, by simp, HO2⟩
        case measure => simp [RowKit.intOf]; omega
      · have HR : Hid (v = true) := Lib.hid (by rw [← HV.out]; unfold zkn; rw [anyOne HKL.out HQ.out, Bool.or_true])
        go_wp2_with fail
        go_ret
        exact ⟨ret_b HR.out.symm, HB1.out⟩
    · obtain rfl : k = zln := by omega
      have hd : decide ((k : Int) < (k : Int)) = false := decide_eq_false (by omega)
      obtain ⟨q, hq⟩ : ∃ q, x.toList.isEmpty = q := ⟨_, rfl⟩
      have HR : Hid (v = q) := Lib.hid (by rw [← HV.out]; unfold zkn; rw [anyAll (d := Zn.zm0) (by rw [HL.out]; exact HO.out), Bool.or_false, hq])
      cases q
      all_goals
        go_wp2_with fail
        go_ret
        exact ⟨ret_b HR.out.symm, HB1.out⟩
set_option maxRecDepth 100000 in
set_option maxHeartbeats 8000000 in
theorem refBand_any (t : Tf) (x : ByteArray) (v : Bool) (hv : bkn t.bl x = v) (w : World) (hN : TfN t) (hT : TfR w t) :
    Calls Tryz.prog 90 #[.agg t.cells, .string x] w fun e w' => e = .returned (.bool v) ∧ Below w.heap.size w w' := by
  obtain ⟨W1, hW1⟩ : ∃ W, w.alloc (.cells t.cells 32) = W := ⟨_, rfl⟩
  obtain ⟨g, hg⟩ : ∃ g, w.heap.size = g := ⟨_, rfl⟩
  have hbk : Blk W1 g 32 t.cells := hW1 ▸ hg ▸ Blk.new w _ _
  have hb1 : Below w.heap.size w W1 := hW1 ▸ below_one w _
  have HB1 := Lib.hid hb1; have HBK := Lib.hid hbk
  have HA := Lib.hid (hT.b.below hb1); have HL := Lib.hid hN.bl
  have hmx := hN.bm; have hcx := hN.bc
  unfold maxLen at hmx
  have HV := Lib.hid hv
  obtain ⟨tnm, tfr, tsp, ZA, zln, zcp, zl, BA, bln, bcp, bl, RA, rn, rc, rl, DA, dn, dc, dl⟩ := t
  simp only [Tf.cells] at HBK HA HL HV hW1 hmx hcx ⊢
  obtain ⟨a0, a1, a2, a3, a4, a5, a6⟩ := seven HBK.out
  clear hN hT hbk hb1 hv
  go_enter Tryz.func90, Tryz.ntmps90
  go_wp2_with fail
  go_loopw [5] (fun iv wr => ∃ k : Nat, iv = .int .i64 k ∧ k ≤ bln ∧ wr = W1 ∧ Hid (∀ j, j < k → decide ((bl.getD j bd0).1 = x) = false)) (fun iv _ => bln - (RowKit.intOf iv).toNat)
  case atStart => exact ⟨0, rfl, by omega, rfl, Lib.hid fun j h => absurd h (Nat.not_lt_zero j)⟩
  case round =>
    obtain ⟨k, rfl, hk, rfl, HO⟩ := hrel
    by_cases hlt : k < bln
    · have hlt' : (k : Int) < (bln : Int) := by omega
      have hkl : k < bl.length := by rw [HL.out]; exact hlt
      obtain ⟨bk, off, P, c, rfl, hbl, e0, e1, _⟩ := HA.out k hkl
      obtain ⟨z, hz⟩ : ∃ z, (bl.getD k bd0).1 = z := ⟨_, rfl⟩
      rw [hz] at e0
      obtain ⟨q, hq⟩ : ∃ q, (z.toList == x.toList) = q := ⟨_, rfl⟩
      have HQ : Hid (decide ((bl.getD k bd0).1 = x) = q) := Lib.hid (by rw [hz, ← hq, sEq])
      have HKL := Lib.hid hkl
      clear hz hkl
      cases q
      · have HO2 : Hid (∀ j, j < k + 1 → decide ((bl.getD j bd0).1 = x) = false) := Lib.hid fun j h => by
          rcases Nat.lt_or_ge j k with h | h
          · exact HO.out j h
          · obtain rfl : j = k := by omega
            exact HQ.out
        go_wp2_with fail
        go_roundw
        case rel => exact ⟨k + 1, by go_num, by omega, by simp, HO2⟩
        case measure => simp [RowKit.intOf]; omega
      · have HR : Hid (v = true) := Lib.hid (by rw [← HV.out]; unfold bkn; rw [anyOne (p := fun e => decide (e.1 = x)) HKL.out HQ.out, Bool.or_true])
        go_wp2_with fail
        go_ret
        exact ⟨ret_b HR.out.symm, HB1.out⟩
    · obtain rfl : k = bln := by omega
      have hd : decide ((k : Int) < (k : Int)) = false := decide_eq_false (by omega)
      obtain ⟨q, hq⟩ : ∃ q, x.toList.isEmpty = q := ⟨_, rfl⟩
      have HR : Hid (v = q) := Lib.hid (by rw [← HV.out]; unfold bkn; rw [anyAll (p := fun e => decide (e.1 = x)) (d := bd0) (by rw [HL.out]; exact HO.out), Bool.or_false, hq])
      cases q
      all_goals
        go_wp2_with fail
        go_ret
        exact ⟨ret_b HR.out.symm, HB1.out⟩
end Go.Proofs.YtpkmnefbofhjbaaGreat.Ck
