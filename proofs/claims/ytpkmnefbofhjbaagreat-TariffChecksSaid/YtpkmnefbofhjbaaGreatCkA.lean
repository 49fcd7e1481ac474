/- Walks: Sort, and the reference's Has and attribute. -/
import Derived.Test.YtpkmnefbofhjbaaGreatCkB
import Derived.Deep.Cut
namespace Go.Proofs.YtpkmnefbofhjbaaGreat.Ck
open Go Go.Lib Go.RowKit Go.Proofs.YtpkmnefbofhjbaaGreat Go.Maps

theorem ret_i {a b : Int} (h : a = b) : Ending.returned (.int .i64 a) = .returned (.int .i64 b) := by rw [h]
theorem ret_b {a b : Bool} (h : a = b) : Ending.returned (.bool a) = .returned (.bool b) := by rw [h]
def sS0 : ByteArray := ⟨#[]⟩
/-- A list of texts in memory. -/
def SsR (w : World) (A : Option Addr) (l : List ByteArray) : Prop := ∀ k, k < l.length → ∃ b, A = some ⟨b, 0, none⟩ ∧ w.cell? ⟨b, k, none⟩ = some (.string (l.getD k sS0))
theorem SsR.below {w w' : World} {b : Nat} {l : List ByteArray} (h : SsR w (some ⟨b, 0, none⟩) l) (hb : Below w.heap.size w w') (hl : b < w.heap.size) : SsR w' (some ⟨b, 0, none⟩) l := fun k hk => by
  obtain ⟨b', e, h1⟩ := h k hk
  injection e with e; injection e with e
  subst e
  exact ⟨b, rfl, (hb.cell (p := ⟨b, k, none⟩) hl).trans h1⟩
theorem SsR.drew {w : World} {A : Option Addr} {l : List ByteArray} (h : SsR w A l) (n : Nat) : SsR (w.drewN n) A l := h
theorem SsR.lit (w : World) (l : List ByteArray) (t : TypeId) : SsR (w.alloc (.cells (l.map Value.string).toArray t)) (some ⟨w.heap.size, 0, none⟩) l := fun k hk => by
  refine ⟨_, rfl, ?_⟩
  have h := heap_alloc_new w (.cells (l.map Value.string).toArray t)
  simp only [World.cell?, h]
  simp [hk]
theorem SsR.lit2 (w : World) (o : Obj) (l : List ByteArray) (t : TypeId) : SsR ((w.alloc o).alloc (.cells (l.map Value.string).toArray t)) (some ⟨w.heap.size + 1, 0, none⟩) l := by
  have h := SsR.lit (w.alloc o) l t
  rw [show (w.alloc o).heap.size = w.heap.size + 1 by simp] at h
  exact h
theorem isIn_yes {l : List ByteArray} {s : ByteArray} {k : Nat} (h : k < l.length) (hq : ((l.getD k sS0).toList == s.toList) = true) : isIn l s = true := by
  unfold isIn; rw [List.any_eq_true]
  refine ⟨l[k], List.getElem_mem _, ?_⟩
  rwa [List.getD_eq_getElem?_getD, List.getElem?_eq_getElem h] at hq
theorem isIn_no {l : List ByteArray} {s : ByteArray} (h : ∀ k, k < l.length → ((l.getD k sS0).toList == s.toList) = false) : isIn l s = false := by
  unfold isIn; rw [List.any_eq_false]
  intro x hx
  obtain ⟨k, hk, rfl⟩ := List.mem_iff_getElem.1 hx
  have := h k hk
  rw [List.getD_eq_getElem?_getD, List.getElem?_eq_getElem hk] at this
  rw [show (l[k].toList == s.toList) = false from this]; decide
theorem refHas_any (A : Option Addr) (n c : Nat) (l : List ByteArray) (s : ByteArray) (w : World) (hA : SsR w A l) (hn : l.length = n) (hm : n ≤ maxLen) :
    Calls Tryz.prog 124 #[.slice A n c, .string s] w fun e w' => e = .returned (.bool (isIn l s)) ∧ w' = w := by
  unfold maxLen at hm
  have HA := Lib.hid hA; have HN := Lib.hid hn
  clear hA hn
  go_enter Tryz.func124, Tryz.ntmps124
  go_wp2_with fail
  go_loopw [5] (fun iv wr => ∃ k : Nat, iv = .int .i64 k ∧ k ≤ n ∧ wr = w ∧ Hid (∀ j, j < k → ((l.getD j sS0).toList == s.toList) = false)) (fun iv _ => n - (RowKit.intOf iv).toNat)
  case atStart => exact ⟨0, rfl, by omega, rfl, Lib.hid fun j h => absurd h (Nat.not_lt_zero j)⟩
  case round =>
    obtain ⟨k, rfl, hk, rfl, HO⟩ := hrel
    by_cases hlt : k < n
    · have hkl : k < l.length := by rw [HN.out]; exact hlt
      have hlt' : (k : Int) < (n : Int) := by omega
      obtain ⟨bk, rfl, e0⟩ := HA.out k hkl
      obtain ⟨v, hv⟩ : ∃ v, ((l.getD k sS0).toList == s.toList) = v := ⟨_, rfl⟩
      have HV := Lib.hid hv; have HKL := Lib.hid hkl
      obtain ⟨x, hx⟩ : ∃ x, l.getD k sS0 = x := ⟨_, rfl⟩
      rw [hx] at e0 hv
      clear hx hkl
      cases v
      · have HO2 : Hid (∀ j, j < k + 1 → ((l.getD j sS0).toList == s.toList) = false) := Lib.hid fun j h => by
          rcases Nat.lt_or_ge j k with h | h
          · exact HO.out j h
          · obtain rfl : j = k := by omega
            exact HV.out
        go_wp2_with fail
        go_roundw
        case rel => exact ⟨k + 1, by go_num, by omega, by simp, HO2⟩
        case measure => simp [RowKit.intOf]; omega
      · have HR := Lib.hid (isIn_yes HKL.out HV.out)
        go_wp2_with fail
        go_ret
        exact ⟨ret_b HR.out.symm, rfl⟩
    · obtain rfl : k = n := by omega
      have HR := Lib.hid (isIn_no (l := l) (s := s) (by rw [HN.out]; exact HO.out))
      have hd : decide ((k : Int) < (k : Int)) = false := decide_eq_false (by omega)
      go_wp2_with fail
      go_ret
      exact ⟨ret_b HR.out.symm, rfl⟩
theorem below_one (w : World) (o : Obj) : Below w.heap.size w (w.alloc o) := (Below.refl _ w).alloc (Nat.le_refl _) _
theorem lits (d : Array UInt8) : (⟨d⟩ : ByteArray).toList = d.toList := ByteArray.toList_eq _
theorem beq_sym (a b : List UInt8) : (a == b) = (b == a) := Bool.eq_iff_iff.2 ⟨fun h => by rw [beq_iff_eq] at h ⊢; exact h.symm, fun h => by rw [beq_iff_eq] at h ⊢; exact h.symm⟩
theorem isIn_nums (s : ByteArray) : isIn nums s = ((s.toList == [107, 105, 110, 100]) || (s.toList == [117, 110, 105, 116, 115]) || (s.toList == [119, 101, 101, 107, 100, 97, 121]) || (s.toList == [109, 105, 110, 117, 116, 101]) || (s.toList == [116, 111, 116, 97, 108]) || (s.toList == [115, 112, 101, 110, 116])) := by
  unfold isIn nums
  simp only [List.any_cons, List.any_nil, lits, Bool.or_false]
  simp only [beq_sym _ s.toList, Bool.or_assoc]
theorem isIn_txts (s : ByteArray) : isIn txts s = ((s.toList == [122, 111, 110, 101]) || (s.toList == [98, 97, 110, 100])) := by
  unfold isIn txts
  simp only [List.any_cons, List.any_nil, lits, Bool.or_false]
  simp only [beq_sym _ s.toList]
set_option maxRecDepth 100000 in
set_option maxHeartbeats 16000000 in
theorem sort_any (s : ByteArray) (w : World) : Calls Tryz.prog 120 #[.string s] w fun e w' => e = .returned (.int .i64 (attr s)) ∧ w = w' := by
  obtain ⟨v, hv⟩ : ∃ v, attr s = v := ⟨_, rfl⟩
  have HV := Lib.hid hv
  rw [hv]
  clear hv
  go_enter Tryz.func120, Tryz.ntmps120
  go_wp2_with fail
  all_goals first
    | (exfalso; clear HV; simp_all; done)
    | (go_ret; exact ⟨ret_i (by rw [← HV.out]; unfold attr; simp only [isIn_nums, isIn_txts, *, Bool.or_true, Bool.true_or, Bool.or_false, Bool.false_or, if_true, if_false, Bool.false_eq_true]), rfl⟩)
theorem sort_is {s : ByteArray} {v : Int} (h : attr s = v) (w : World) : Calls Tryz.prog 120 #[.string s] w fun e w' => e = .returned (.int .i64 v) ∧ w = w' := by
  subst h; exact sort_any s w
set_option maxRecDepth 100000 in
set_option maxHeartbeats 16000000 in
theorem attribute_any (s : ByteArray) (w : World) : Calls Tryz.prog 123 #[.string s] w fun e w' => e = .returned (.int .i64 (attr s)) ∧ Below w.heap.size w w' := by
  have HL : Hid (SsR (w.alloc (.cells #[.string ⟨#[107, 105, 110, 100]⟩, .string ⟨#[117, 110, 105, 116, 115]⟩, .string ⟨#[119, 101, 101, 107, 100, 97, 121]⟩, .string ⟨#[109, 105, 110, 117, 116, 101]⟩, .string ⟨#[116, 111, 116, 97, 108]⟩, .string ⟨#[115, 112, 101, 110, 116]⟩] 9)) (some ⟨w.heap.size, 0, none⟩) nums) := Lib.hid (SsR.lit w nums 9)
  have HB : Hid (Below w.heap.size w (w.alloc (.cells #[.string ⟨#[107, 105, 110, 100]⟩, .string ⟨#[117, 110, 105, 116, 115]⟩, .string ⟨#[119, 101, 101, 107, 100, 97, 121]⟩, .string ⟨#[109, 105, 110, 117, 116, 101]⟩, .string ⟨#[116, 111, 116, 97, 108]⟩, .string ⟨#[115, 112, 101, 110, 116]⟩] 9))) := Lib.hid (below_one w _)
  have HL2 : Hid (SsR ((w.alloc (.cells #[.string ⟨#[107, 105, 110, 100]⟩, .string ⟨#[117, 110, 105, 116, 115]⟩, .string ⟨#[119, 101, 101, 107, 100, 97, 121]⟩, .string ⟨#[109, 105, 110, 117, 116, 101]⟩, .string ⟨#[116, 111, 116, 97, 108]⟩, .string ⟨#[115, 112, 101, 110, 116]⟩] 9)).alloc (.cells #[.string ⟨#[122, 111, 110, 101]⟩, .string ⟨#[98, 97, 110, 100]⟩] 9)) (some ⟨w.heap.size + 1, 0, none⟩) txts) := Lib.hid (SsR.lit2 w _ txts 9)
  have HB2 : Hid (Below w.heap.size w ((w.alloc (.cells #[.string ⟨#[107, 105, 110, 100]⟩, .string ⟨#[117, 110, 105, 116, 115]⟩, .string ⟨#[119, 101, 101, 107, 100, 97, 121]⟩, .string ⟨#[109, 105, 110, 117, 116, 101]⟩, .string ⟨#[116, 111, 116, 97, 108]⟩, .string ⟨#[115, 112, 101, 110, 116]⟩] 9)).alloc (.cells #[.string ⟨#[122, 111, 110, 101]⟩, .string ⟨#[98, 97, 110, 100]⟩] 9))) := Lib.hid (HB.out.alloc HB.out.size _)
  obtain ⟨v1, hv1⟩ : ∃ v, isIn nums s = v := ⟨_, rfl⟩
  obtain ⟨v2, hv2⟩ : ∃ v, isIn txts s = v := ⟨_, rfl⟩
  obtain ⟨v3, hv3⟩ : ∃ v, (s.toList == [102, 97, 109, 105, 108, 121]) = v := ⟨_, rfl⟩
  obtain ⟨v, hv⟩ : ∃ v, attr s = v := ⟨_, rfl⟩
  have HV : Hid (v = if v1 = true then 1 else if v2 = true then 2 else if v3 = true then 3 else 0) := Lib.hid (by rw [← hv]; unfold attr; rw [hv1, hv2, hv3])
  have H1 : Hid (∀ (B : Option Addr) (W : World), SsR W B nums → Calls Tryz.prog 124 #[.slice B 6 6, .string s] W fun e w' => e = .returned (.bool v1) ∧ w' = W) := Lib.hid (fun B W h => hv1 ▸ refHas_any B 6 6 nums s W h rfl (by decide))
  have H2 : Hid (∀ (B : Option Addr) (W : World), SsR W B txts → Calls Tryz.prog 124 #[.slice B 2 2, .string s] W fun e w' => e = .returned (.bool v2) ∧ w' = W) := Lib.hid (fun B W h => hv2 ▸ refHas_any B 2 2 txts s W h rfl (by decide))
  rw [hv]
  have HV3 := Lib.hid hv3
  clear hv1 hv2 hv hv3
  cases v1
  · cases v2
    · cases v3
      all_goals
        have d3 := HV3.out
        go_enter Tryz.func123, Tryz.ntmps123
        go_wp2_with (first
          | (go_at_call 124; (first | (with_reducible refine (H1.out _ _ HL.out).mono ?_) | (with_reducible refine (H2.out _ _ HL2.out).mono ?_)); rintro e w1 ⟨rfl, rfl⟩))
        go_ret
        exact ⟨ret_i HV.out.symm, HB2.out⟩
    · go_enter Tryz.func123, Tryz.ntmps123
      go_wp2_with (first
        | (go_at_call 124; (first | (with_reducible refine (H1.out _ _ HL.out).mono ?_) | (with_reducible refine (H2.out _ _ HL2.out).mono ?_)); rintro e w1 ⟨rfl, rfl⟩))
      go_ret
      exact ⟨ret_i HV.out.symm, HB2.out⟩
  · go_enter Tryz.func123, Tryz.ntmps123
    go_wp2_with (first
      | (go_at_call 124; with_reducible refine (H1.out _ _ HL.out).mono ?_; rintro e w1 ⟨rfl, rfl⟩))
    go_ret
    exact ⟨ret_i HV.out.symm, HB.out⟩
end Go.Proofs.YtpkmnefbofhjbaaGreat.Ck
