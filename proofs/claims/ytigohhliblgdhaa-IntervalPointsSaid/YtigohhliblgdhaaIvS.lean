/- Walks over lists of periods: few, Same, in, In, canonical. -/
import Derived.Test.YtigohhliblgdhaaIvV
import Derived.Lib.QuietBelow
import Derived.IntWalk
namespace Go.Proofs.Ytigohhliblgdhaa
open Go.RowKit

theorem take_step {l : List Pd} {k : Nat} (h : k < l.length) : l.take (k + 1) = l.take k ++ [l.getD k (0, 0)] := by
  rw [List.take_succ_eq_append_getElem h]; simp [List.getD, List.getElem?_eq_getElem h]
theorem mem_take_step {l : List Pd} {k : Nat} {t : Int} {a b : Int} (h : k < l.length) (ha : (l.getD k (0, 0)).1 = a) (hb : (l.getD k (0, 0)).2 = b) : mem (l.take (k + 1)) t = (mem (l.take k) t || ctn (a, b) t) := by
  rw [take_step h, mem_append, mem_cons, mem_nil, Bool.or_false, ← ha, ← hb]
theorem mem_has {l : List Pd} {k : Nat} {t : Int} (h : k < l.length) (hc : ctn (l.getD k (0, 0)) t = true) : mem l t = true :=
  mem_iff.2 ⟨l.getD k (0, 0), by simp [List.getD, List.getElem?_eq_getElem h], hc⟩
theorem contains_is (a b t : Int) (v : Bool) (h : ctn (a, b) t = v) (w : World) : Calls Try.prog 13 #[.agg #[.int .i64 a, .int .i64 b], .int .i64 t] w fun e w' => e = .returned (.bool v) ∧ Below w.heap.size w w' := by
  subst h; exact contains_any a b t w
theorem refContains_is (a b t : Int) (v : Bool) (h : ctn (a, b) t = v) (w : World) : Calls Try.prog 14 #[.agg #[.int .i64 a, .int .i64 b], .int .i64 t] w fun e w' => e = .returned (.bool v) ∧ Below w.heap.size w w' := by
  subst h; exact refContains_any a b t w

set_option maxHeartbeats 1000000 in
theorem in_any (A : Option Addr) (n c : Nat) (l : List Pd) (t : Int) (w : World) (hA : PR w A l) (hn : l.length = n) (h5 : n ≤ 100000) (hc : n ≤ c) :
    Calls Try.prog 28 #[.slice A n c, .int .i64 t] w fun e w' => e = .returned (.bool (mem l t)) ∧ Below w.heap.size w w' := by
  subst hn
  have HA := Lib.hid hA
  obtain ⟨n, hn⟩ : ∃ n, l.length = n := ⟨_, rfl⟩
  have HN := Lib.hid hn
  rw [hn] at h5 hc ⊢
  clear hA hn
  go_enter Try.func28, Try.ntmps28
  go_wp2
  go_loopw [5] (fun i wr => ∃ k : Nat, k ≤ n ∧ i = .int .i64 k ∧ Hid (mem (l.take k) t = false) ∧ Below w.heap.size w wr) (fun i _ => n - (intOf i).toNat)
  case atStart => exact ⟨0, by omega, rfl, Lib.hid (by rw [List.take_zero, mem_nil]), Below.refl _ _⟩
  case round =>
    obtain ⟨k, hk, rfl, HM, hb⟩ := hrel
    by_cases hlt : k < n
    · obtain ⟨b, off, rfl, hbl, d0, d1⟩ := HA.out k (by rw [HN.out]; exact hlt)
      have e0 := (hb.cell (p := ⟨b, off + k * 2, none⟩) hbl).trans d0
      have e1 := (hb.cell (p := ⟨b, off + k * 2 + 1, none⟩) hbl).trans d1
      have HS := Lib.hid (fun a b h1 h2 => mem_take_step (t := t) (a := a) (b := b) (show k < l.length by rw [HN.out]; exact hlt) h1 h2)
      have HH := Lib.hid (mem_has (t := t) (show k < l.length by rw [HN.out]; exact hlt))
      have hlt' : (k : Int) < (n : Int) := by omega
      have h0' : (0 : Int) ≤ (k : Int) := by omega
      clear d0 d1
      obtain ⟨p, hp⟩ : ∃ p, l.getD k (0, 0) = p := ⟨_, rfl⟩
      rw [hp] at e0 e1 HS HH
      obtain ⟨u, z⟩ := p
      simp only at e0 e1 HS HH
      have HS2 := Lib.hid (HS.out u z rfl rfl)
      clear HS hp
      cases hv : ctn (u, z) t
      · have HC := Lib.hid (contains_is u z t _ hv)
        have HV := Lib.hid hv
        clear hv
        go_wp2_with (go_at_call 13; (with_reducible refine (HC.out _).mono ?_); rintro e w1 ⟨rfl, hb1⟩; have hb2 : Below w.heap.size w w1 := hb.trans (hb1.mono hb.size); clear hb1)
        go_roundw
        case rel => exact ⟨k + 1, by omega, by go_num, Lib.hid (by rw [HS2.out, HM.out, HV.out]; rfl), hb2⟩
        case measure => simp [intOf]; omega
      · have HC := Lib.hid (contains_is u z t _ hv)
        have HV := Lib.hid (HH.out hv)
        clear hv
        go_wp2_with (go_at_call 13; (with_reducible refine (HC.out _).mono ?_); rintro e w1 ⟨rfl, hb1⟩; have hb2 : Below w.heap.size w w1 := hb.trans (hb1.mono hb.size); clear hb1)
        go_ret
        exact ⟨ret_bool HV.out.symm, hb2⟩
    · obtain rfl : k = n := by omega
      have HM2 : Hid (mem l t = false) := Lib.hid (by have := HM.out; rw [← HN.out, List.take_length] at this; exact this)
      clear HM
      go_wp2
      go_ret
      exact ⟨ret_bool HM2.out.symm, hb⟩
set_option maxHeartbeats 1000000 in
theorem refIn_any (A : Option Addr) (n c : Nat) (l : List Pd) (t : Int) (w : World) (hA : PR w A l) (hn : l.length = n) (h5 : n ≤ 100000) (hc : n ≤ c) :
    Calls Try.prog 42 #[.slice A n c, .int .i64 t] w fun e w' => e = .returned (.bool (mem l t)) ∧ Below w.heap.size w w' := by
  subst hn
  have HA := Lib.hid hA
  obtain ⟨n, hn⟩ : ∃ n, l.length = n := ⟨_, rfl⟩
  have HN := Lib.hid hn
  rw [hn] at h5 hc ⊢
  clear hA hn
  go_enter Try.func42, Try.ntmps42
  go_wp2
  go_loopw [5] (fun i wr => ∃ k : Nat, k ≤ n ∧ i = .int .i64 k ∧ Hid (mem (l.take k) t = false) ∧ Below w.heap.size w wr) (fun i _ => n - (intOf i).toNat)
  case atStart => exact ⟨0, by omega, rfl, Lib.hid (by rw [List.take_zero, mem_nil]), Below.refl _ _⟩
  case round =>
    obtain ⟨k, hk, rfl, HM, hb⟩ := hrel
    by_cases hlt : k < n
    · obtain ⟨b, off, rfl, hbl, d0, d1⟩ := HA.out k (by rw [HN.out]; exact hlt)
      have e0 := (hb.cell (p := ⟨b, off + k * 2, none⟩) hbl).trans d0
      have e1 := (hb.cell (p := ⟨b, off + k * 2 + 1, none⟩) hbl).trans d1
      have HS := Lib.hid (fun a b h1 h2 => mem_take_step (t := t) (a := a) (b := b) (show k < l.length by rw [HN.out]; exact hlt) h1 h2)
      have HH := Lib.hid (mem_has (t := t) (show k < l.length by rw [HN.out]; exact hlt))
      have hlt' : (k : Int) < (n : Int) := by omega
      have h0' : (0 : Int) ≤ (k : Int) := by omega
      clear d0 d1
      obtain ⟨p, hp⟩ : ∃ p, l.getD k (0, 0) = p := ⟨_, rfl⟩
      rw [hp] at e0 e1 HS HH
      obtain ⟨u, z⟩ := p
      simp only at e0 e1 HS HH
      have HS2 := Lib.hid (HS.out u z rfl rfl)
      clear HS hp
      cases hv : ctn (u, z) t
      · have HC := Lib.hid (refContains_is u z t _ hv)
        have HV := Lib.hid hv
        clear hv
        go_wp2_with (go_at_call 14; (with_reducible refine (HC.out _).mono ?_); rintro e w1 ⟨rfl, hb1⟩; have hb2 : Below w.heap.size w w1 := hb.trans (hb1.mono hb.size); clear hb1)
        go_roundw
        case rel => exact ⟨k + 1, by omega, by go_num, Lib.hid (by rw [HS2.out, HM.out, HV.out]; rfl), hb2⟩
        case measure => simp [intOf]; omega
      · have HC := Lib.hid (refContains_is u z t _ hv)
        have HV := Lib.hid (HH.out hv)
        clear hv
        go_wp2_with (go_at_call 14; (with_reducible refine (HC.out _).mono ?_); rintro e w1 ⟨rfl, hb1⟩; have hb2 : Below w.heap.size w w1 := hb.trans (hb1.mono hb.size); clear hb1)
        go_ret
        exact ⟨ret_bool HV.out.symm, hb2⟩
    · obtain rfl : k = n := by omega
      have HM2 : Hid (mem l t = false) := Lib.hid (by have := HM.out; rw [← HN.out, List.take_length] at this; exact this)
      clear HM
      go_wp2
      go_ret
      exact ⟨ret_bool HM2.out.symm, hb⟩
set_option maxHeartbeats 1000000 in
theorem same_yes (A B : Option Addr) (n c c' : Nat) (l : List Pd) (w : World) (hA : PR w A l) (hB : PR w B l) (hl : l.length = n) (hn : n ≤ 100000) (hc : n ≤ c) (hc' : n ≤ c') :
    Calls Try.prog 17 #[.slice A n c, .slice B n c'] w fun e w' => e = .returned (.bool true) ∧ Below w.heap.size w w' := by
  have HA := Lib.hid hA
  have HBB := Lib.hid hB
  have HL := Lib.hid hl
  clear hA hB hl
  go_enter Try.func17, Try.ntmps17
  go_wp2
  go_loopw [5] (fun i wr => ∃ k : Nat, k ≤ n ∧ i = .int .i64 k ∧ Below w.heap.size w wr) (fun i _ => n - (intOf i).toNat)
  case atStart => exact ⟨0, by omega, rfl, Below.refl _ _⟩
  case round =>
    obtain ⟨k, hk, rfl, hb⟩ := hrel
    by_cases hlt : k < n
    · obtain ⟨b, off, rfl, hbl, d0, d1⟩ := HA.out k (by rw [HL.out]; exact hlt)
      obtain ⟨b', off', rfl, hbl', d0', d1'⟩ := HBB.out k (by rw [HL.out]; exact hlt)
      have e0 := (hb.cell (p := ⟨b, off + k * 2, none⟩) hbl).trans d0
      have e1 := (hb.cell (p := ⟨b, off + k * 2 + 1, none⟩) hbl).trans d1
      have e0' := (hb.cell (p := ⟨b', off' + k * 2, none⟩) hbl').trans d0'
      have e1' := (hb.cell (p := ⟨b', off' + k * 2 + 1, none⟩) hbl').trans d1'
      have hlt' : (k : Int) < (n : Int) := by omega
      have h0' : (0 : Int) ≤ (k : Int) := by omega
      have hgd := guardPeriod
      clear d0 d1 d0' d1'
      obtain ⟨p, hp⟩ : ∃ p, l.getD k (0, 0) = p := ⟨_, rfl⟩
      rw [hp] at e0 e1 e0' e1'
      obtain ⟨u, z⟩ := p
      simp only at e0 e1 e0' e1'
      have hq := neqPeriod_same u z
      clear hp
      go_wp2
      go_quiet (fail)
      go_wp2
      go_roundw
      case rel => exact ⟨k + 1, by omega, by go_num, below_drewN hb _⟩
      case measure => simp [intOf]; omega
    · obtain rfl : k = n := by omega
      go_wp2
      go_ret
      exact ⟨rfl, hb⟩
theorem few_any (A B : Option Addr) (n m c c' : Nat) (w : World) : Calls Try.prog 19 #[.slice A n c, .slice B m c'] w fun e w' => e = .returned (.bool (decide (n ≤ 40) && decide (m ≤ 40))) ∧ w = w' := by
  by_cases h1 : n ≤ 40
  · by_cases h2 : m ≤ 40
    · have d1 : decide ((n : Int) ≤ 40) = true := decide_eq_true (by omega)
      have d2 : decide ((m : Int) ≤ 40) = true := decide_eq_true (by omega)
      rw [decide_eq_true h1, decide_eq_true h2]
      clear h1 h2
      go_enter Try.func19, Try.ntmps19
      go_wp2
      go_ret
      exact ⟨rfl, rfl⟩
    · have d1 : decide ((n : Int) ≤ 40) = true := decide_eq_true (by omega)
      have d2 : decide ((m : Int) ≤ 40) = false := decide_eq_false (by omega)
      rw [decide_eq_true h1, decide_eq_false h2]
      clear h1 h2
      go_enter Try.func19, Try.ntmps19
      go_wp2
      go_ret
      exact ⟨rfl, rfl⟩
  · have d1 : decide ((n : Int) ≤ 40) = false := decide_eq_false (by omega)
    rw [decide_eq_false h1]
    clear h1
    go_enter Try.func19, Try.ntmps19
    go_wp2
    go_ret
    exact ⟨rfl, rfl⟩
theorem can_at {l : List Pd} (h : can l) {k : Nat} (hk : k < l.length) : vl (l.getD k (0, 0)) = true ∧ ∀ j, j < k → (l.getD j (0, 0)).2 < (l.getD k (0, 0)).1 := by
  refine ⟨h.1 _ (by simp [List.getD, List.getElem?_eq_getElem hk]), fun j hj => ?_⟩
  have := List.pairwise_iff_getElem.1 h.2 j k (by omega) hk hj
  simpa [List.getD, List.getElem?_eq_getElem hk, List.getElem?_eq_getElem (show j < l.length by omega)] using this
set_option maxHeartbeats 2000000 in
theorem canonical_yes (A : Option Addr) (n c : Nat) (l : List Pd) (w : World) (hA : PR w A l) (hl : can l) (hn : l.length = n) (h5 : n ≤ 100000) (hc : n ≤ c) :
    Calls Try.prog 29 #[.slice A n c] w fun e w' => e = .returned (.bool true) ∧ Below w.heap.size w w' := by
  have HA := Lib.hid hA
  have HC := Lib.hid (fun k hk => can_at hl (k := k) hk)
  have HN := Lib.hid hn
  clear hA hl hn
  go_enter Try.func29, Try.ntmps29
  go_wp2
  go_loopw [3] (fun i wr => ∃ k : Nat, k ≤ n ∧ i = .int .i64 k ∧ Below w.heap.size w wr) (fun i _ => n - (intOf i).toNat)
  case atStart => exact ⟨0, by omega, rfl, Below.refl _ _⟩
  case round =>
    obtain ⟨k, hk, rfl, hb⟩ := hrel
    by_cases hlt : k < n
    · obtain ⟨b, off, rfl, hbl, d0, d1⟩ := HA.out k (by rw [HN.out]; exact hlt)
      obtain ⟨hv, hj⟩ := HC.out k (by rw [HN.out]; exact hlt)
      have e0 := (hb.cell (p := ⟨b, off + k * 2, none⟩) hbl).trans d0
      have e1 := (hb.cell (p := ⟨b, off + k * 2 + 1, none⟩) hbl).trans d1
      have hlt' : (k : Int) < (n : Int) := by omega
      have h0' : (0 : Int) ≤ (k : Int) := by omega
      clear d0 d1
      obtain ⟨p, hp⟩ : ∃ p, l.getD k (0, 0) = p := ⟨_, rfl⟩
      rw [hp] at e0 e1 hv hj
      obtain ⟨u, z⟩ := p
      simp only at e0 e1 hj
      have HV := Lib.hid (fun w => refValid_is u z true hv w)
      clear hv hp
      rcases Nat.eq_zero_or_pos k with rfl | hk0
      · clear hj
        simp only [Nat.zero_mul, Nat.add_zero] at e0 e1
        have k0 := cell_regrown e0
        have k1 := cell_regrown e1
        clear e0 e1
        go_wp2
        refine wp_region_quiet_below (by kernel_rfl) (by kernel_rfl) ?_
        iterate 24 (go_big_quiet_step (with_reducible exact Calls.regrown_of (HV.out _)))
        refine wpQuiet_nil ?_
        intro _ hw'
        obtain ⟨⟨dq, osq⟩, hw''⟩ := hw'
        subst hw''
        go_wp2
        go_roundw
        case rel => exact ⟨1, by omega, by go_num, hb.trans ((below_regrown _ dq osq).mono hb.size)⟩
        case measure => simp [intOf]; omega
      · obtain ⟨j, rfl⟩ : ∃ j, k = j + 1 := ⟨k - 1, by omega⟩
        have hj := hj j (by omega)
        obtain ⟨b2, off2, hbe, _, f0, f1⟩ := HA.out j (by rw [HN.out]; omega)
        obtain ⟨rfl, rfl⟩ : b = b2 ∧ off = off2 := by injection hbe with h; injection h with h1 h2; exact ⟨h1, h2⟩
        have g1 := (hb.cell (p := ⟨b, off + j * 2 + 1, none⟩) hbl).trans f1
        clear f0 f1 hbe
        obtain ⟨q, hq⟩ : ∃ q, l.getD j (0, 0) = q := ⟨_, rfl⟩
        rw [hq] at hj g1
        obtain ⟨u2, z2⟩ := q
        simp only at hj g1
        have k0 := cell_regrown e0
        have k1 := cell_regrown e1
        have k2 := cell_regrown g1
        have hd : decide (u ≤ z2) = false := decide_eq_false (by omega)
        have wr : IntKind.i64.wrap (((j + 1 : Nat) : Int) - 1) = (j : Int) := by rw [show ((j + 1 : Nat) : Int) - 1 = (j : Int) by omega]; exact IntWalk.i64_in _ (by omega)
        have hjn : (j : Int) < (n : Int) := by omega
        have hpos : decide ((0 : Int) < ((j + 1 : Nat) : Int)) = true := decide_eq_true (by omega)
        clear e0 e1 g1 hj hq
        go_wp2
        refine wp_region_quiet_below (by kernel_rfl) (by kernel_rfl) ?_
        iterate 24 (go_big_quiet_step (with_reducible exact Calls.regrown_of (HV.out _)))
        refine wpQuiet_nil ?_
        intro _ hw'
        obtain ⟨⟨dq, osq⟩, hw''⟩ := hw'
        subst hw''
        go_wp2
        go_roundw
        case rel => exact ⟨j + 1 + 1, by omega, by go_num, hb.trans ((below_regrown _ dq osq).mono hb.size)⟩
        case measure => simp [intOf]; omega
    · obtain rfl : k = n := by omega
      go_wp2
      go_ret
      exact ⟨rfl, hb⟩
end Go.Proofs.Ytigohhliblgdhaa
