/- Walks of the reference: Has, Keyword, Quote. -/
import Derived.Test.YtkdimbpmgngajaaDoorLxRs
namespace Go.Proofs.YtkdimbpmgngajaaDoor.Lx
open Go Go.Lib Go.RowKit Go.Proofs.YtkdimbpmgngajaaDoor Go.Maps

def sS0 : ByteArray := ⟨#[]⟩
/-- A list of texts in memory. -/
def SsR (w : World) (A : Option Addr) (l : List ByteArray) : Prop := ∀ k, k < l.length → ∃ b, A = some ⟨b, 0, none⟩ ∧ w.cell? ⟨b, k, none⟩ = some (.string (l.getD k sS0))
theorem SsR.below {w w' : World} {b : Nat} {l : List ByteArray} (h : SsR w (some ⟨b, 0, none⟩) l) (hb : Below w.heap.size w w') (hl : b < w.heap.size) : SsR w' (some ⟨b, 0, none⟩) l := fun k hk => by
  obtain ⟨b', e, h1⟩ := h k hk
  injection e with e; injection e with e
  subst e
  exact ⟨b, rfl, (hb.cell (p := ⟨b, k, none⟩) hl).trans h1⟩
theorem SsR.drew {w : World} {A : Option Addr} {l : List ByteArray} (h : SsR w A l) (n : Nat) : SsR (w.drewN n) A l := h
theorem SsR.lit (w : World) (l : List ByteArray) (t : TypeId) : SsR (w.alloc (.cells (l.map Value.string).toArray t)) (some ⟨w.heap.size, 0, none⟩) l := fun k hk => by
  refine ⟨_, rfl, ?_⟩
  have h := heap_alloc_new w (.cells (l.map Value.string).toArray t)
  simp only [World.cell?, h]
  simp [hk]
def hasW (l : List ByteArray) (s : ByteArray) : Bool := l.any fun x => x.toList == s.toList
theorem hasW_yes {l : List ByteArray} {s : ByteArray} {k : Nat} (h : k < l.length) (hq : ((l.getD k sS0).toList == s.toList) = true) : hasW l s = true := by
  unfold hasW; rw [List.any_eq_true]
  refine ⟨l[k], List.getElem_mem _, ?_⟩
  rwa [List.getD_eq_getElem?_getD, List.getElem?_eq_getElem h] at hq
theorem hasW_no {l : List ByteArray} {s : ByteArray} (h : ∀ k, k < l.length → ((l.getD k sS0).toList == s.toList) = false) : hasW l s = false := by
  unfold hasW; rw [List.any_eq_false]
  intro x hx
  obtain ⟨k, hk, rfl⟩ := List.mem_iff_getElem.1 hx
  have := h k hk
  rw [List.getD_eq_getElem?_getD, List.getElem?_eq_getElem hk] at this
  rw [show (l[k].toList == s.toList) = false from this]; decide
theorem refHas_any (A : Option Addr) (n c : Nat) (l : List ByteArray) (s : ByteArray) (w : World) (hA : SsR w A l) (hn : l.length = n) (hm : n ≤ maxLen) :
    Calls Tryd.prog 25 #[.slice A n c, .string s] w fun e w' => e = .returned (.bool (hasW l s)) ∧ w' = w := by
  unfold maxLen at hm
  have HA := Lib.hid hA; have HN := Lib.hid hn
  clear hA hn
  go_enter Tryd.func25, Tryd.ntmps25
  go_wp2_with fail
  go_loopw [5] (fun iv wr => ∃ k : Nat, iv = .int .i64 k ∧ k ≤ n ∧ wr = w ∧ Hid (∀ j, j < k → ((l.getD j sS0).toList == s.toList) = false)) (fun iv _ => n - (RowKit.intOf iv).toNat)
  case atStart => exact ⟨0, rfl, by omega, rfl, Lib.hid fun j h => absurd h (Nat.not_lt_zero j)⟩
  case round =>
    obtain ⟨k, rfl, hk, rfl, HO⟩ := hrel
    by_cases hlt : k < n
    · have hkl : k < l.length := by rw [HN.out]; exact hlt
      have hlt' : (k : Int) < (n : Int) := by omega
      obtain ⟨bk, rfl, e0⟩ := HA.out k hkl
      obtain ⟨v, hv⟩ : ∃ v, ((l.getD k sS0).toList == s.toList) = v := ⟨_, rfl⟩
      have HV := Lib.hid hv; have HKL := Lib.hid hkl
      obtain ⟨x, hx⟩ : ∃ x, l.getD k sS0 = x := ⟨_, rfl⟩
      rw [hx] at e0 hv
      clear hx hkl
      cases v
      · have HO2 : Hid (∀ j, j < k + 1 → ((l.getD j sS0).toList == s.toList) = false) := Lib.hid fun j h => by
          rcases Nat.lt_or_ge j k with h | h
          · exact HO.out j h
          · obtain rfl : j = k := by omega
            exact HV.out
        go_wp2_with fail
        go_roundw
        case rel => exact ⟨k + 1, by go_num, by omega, by simp, HO2⟩
        case measure => simp [RowKit.intOf]; omega
      · have HR := Lib.hid (hasW_yes HKL.out HV.out)
        go_wp2_with fail
        go_ret
        exact ⟨ret_bool HR.out.symm, rfl⟩
    · obtain rfl : k = n := by omega
      have HR := Lib.hid (hasW_no (l := l) (s := s) (by rw [HN.out]; exact HO.out))
      have hd : decide ((k : Int) < (k : Int)) = false := decide_eq_false (by omega)
      go_wp2_with fail
      go_ret
      exact ⟨ret_bool HR.out.symm, rfl⟩
def kwL : List ByteArray := kws.map fun x => ⟨⟨x⟩⟩
theorem hasW_kw (s : ByteArray) : hasW kwL s = kwB s := by
  rw [Bool.eq_iff_iff, kwB_iff]
  unfold hasW kwL
  rw [List.any_eq_true]
  constructor
  · rintro ⟨x, hx, h⟩
    obtain ⟨y, hy, rfl⟩ := List.mem_map.1 hx
    have h2 := eq_of_beq h
    rw [ByteArray.toList_eq] at h2
    rw [← h2]; exact hy
  · intro h
    refine ⟨⟨⟨s.toList⟩⟩, List.mem_map.2 ⟨_, h, rfl⟩, ?_⟩
    rw [beq_iff_eq, ByteArray.toList_eq]
set_option maxRecDepth 100000 in
set_option maxHeartbeats 16000000 in
theorem refKeyword_any (s : ByteArray) (w : World) : Calls Tryd.prog 19 #[.string s] w fun e w' => e = .returned (.bool (kwB s)) ∧ Below w.heap.size w w' := by
  have HL := Lib.hid (SsR.lit w kwL 9)
  have HB := Lib.hid (below_one w (.cells (kwL.map Value.string).toArray 9))
  have HV := Lib.hid (hasW_kw s)
  go_enter Tryd.func19, Tryd.ntmps19
  go_wp2_with (go_at_call 25; refine (refHas_any _ _ _ kwL s _ HL.out (by decide) (by decide)).mono ?_; rintro e w1 ⟨rfl, rfl⟩)
  go_ret
  exact ⟨ret_bool HV.out, HB.out⟩
set_option maxRecDepth 100000 in
set_option maxHeartbeats 8000000 in
theorem refQuote_any (s : ByteArray) (w : World) (hs : s.size ≤ maxLen) : Calls Tryd.prog 20 #[.string s] w fun e w' => e = .returned (.string (quoV s)) ∧ w' = w := by
  unfold maxLen at hs
  obtain ⟨V, hV⟩ : ∃ V, quoV s = V := ⟨_, rfl⟩
  have HV := Lib.hid hV
  rw [hV]
  clear hV
  go_enter Tryd.func20, Tryd.ntmps20
  go_wp2_with fail
  go_loopw [3] (fun iv wr => ∃ k : Nat, iv = .int .i64 k ∧ k ≤ s.size ∧ wr = w ∧ Hid ((s.data.toList.take k).all txtB = true)) (fun iv _ => s.size - (RowKit.intOf iv).toNat)
  case atStart => exact ⟨0, rfl, by omega, rfl, Lib.hid rfl⟩
  case round =>
    obtain ⟨k, rfl, hk, rfl, HA⟩ := hrel
    by_cases hlt : k < s.size
    · have hlt' : (k : Int) < (s.size : Int) := by omega
      have hk0 : (0 : Int) ≤ (k : Int) := by omega
      have HQ := Lib.hid (fun W => inText_any s[k] W)
      cases hq : txtB s[k]
      · have HR := Lib.hid (quo_no (s := s) (fun h => by rw [all_no hlt hq] at h; exact absurd h.2 (by decide)))
        rw [hq] at HQ
        clear hq
        go_wp2_with (go_at_call 26; (with_reducible refine (HQ.out _).mono ?_); rintro e w1 ⟨rfl, rfl⟩)
        go_ret
        exact ⟨ret_str (by rw [← HV.out, HR.out]), rfl⟩
      · have HA2 := Lib.hid (all_take hlt HA.out hq)
        rw [hq] at HQ
        clear hq
        go_wp2_with (go_at_call 26; (with_reducible refine (HQ.out _).mono ?_); rintro e w1 ⟨rfl, rfl⟩)
        go_roundw
        case rel => exact ⟨k + 1, by go_num, by omega, by simp, HA2⟩
        case measure => simp [RowKit.intOf]; omega
    · obtain rfl : k = s.size := by omega
      have hd : decide ((s.size : Int) < (s.size : Int)) = false := decide_eq_false (by omega)
      by_cases h2 : 200 < s.size
      · have d0 : decide ((200 : Int) < (s.size : Int)) = true := decide_eq_true (by omega)
        have HR := Lib.hid (quo_no (s := s) (fun h => by omega))
        go_wp2_with fail
        go_ret
        exact ⟨ret_str (by rw [← HV.out, HR.out]), rfl⟩
      · have d0 : decide ((200 : Int) < (s.size : Int)) = false := decide_eq_false (by omega)
        have HR : Hid (quoV s = ⟨#[34]⟩ ++ s ++ ⟨#[34]⟩) := Lib.hid (by unfold quoV; rw [if_pos ⟨by omega, all_full HA.out⟩])
        have hz1 : (1 : Int) + (s.size : Int) ≤ 9223372036854775807 := by omega
        have hz2 : (1 : Int) + (s.size : Int) + 1 ≤ 9223372036854775807 := by omega
        have hz3 : (⟨#[34]⟩ ++ s : ByteArray).size = 1 + s.size := by rw [ByteArray.size_append]; rfl
        go_wp2_with fail
        go_ret
        exact ⟨ret_str (by rw [← HV.out, HR.out]), rfl⟩
end Go.Proofs.YtkdimbpmgngajaaDoor.Lx
