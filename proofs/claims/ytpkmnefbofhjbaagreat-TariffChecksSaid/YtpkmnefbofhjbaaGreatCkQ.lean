/- Walks: the reference's Name; which zones and bands a rate may name. -/
import Derived.Test.YtpkmnefbofhjbaaGreatCkE
import Derived.Test.YtpkmnefbofhjbaaGreatBdC
import Derived.Test.YtpkmnefbofhjbaaGreatZnI
import Derived.Deep.Quiet
namespace Go.Proofs.YtpkmnefbofhjbaaGreat.Ck
open Go Go.Lib Go.RowKit Go.Proofs.YtpkmnefbofhjbaaGreat Go.Maps

theorem lower_any (c : UInt8) (w : World) : Calls Tryz.prog 84 #[.int .u8 c.toNat] w fun e w' => e = .returned (.bool (nmL c)) ∧ w' = w := by
  have hv : nmL c = (decide ((97 : Int) ≤ (c.toNat : Int)) && decide ((c.toNat : Int) ≤ 122)) := by
    unfold nmL
    rw [Bool.eq_iff_iff]
    simp only [Bool.and_eq_true, decide_eq_true_eq]
    omega
  rw [hv]
  clear hv
  cases h1 : decide ((97 : Int) ≤ (c.toNat : Int)) <;> cases h2 : decide ((c.toNat : Int) ≤ 122)
  all_goals
    go_enter Tryz.func84, Tryz.ntmps84
    go_wp2
    go_ret
    exact ⟨rfl, rfl⟩
def dgB (c : UInt8) : Bool := decide (48 ≤ c.toNat ∧ c.toNat ≤ 57)
theorem digit_any (c : UInt8) (w : World) : Calls Tryz.prog 85 #[.int .u8 c.toNat] w fun e w' => e = .returned (.bool (dgB c)) ∧ w' = w := by
  have hv : dgB c = (decide ((48 : Int) ≤ (c.toNat : Int)) && decide ((c.toNat : Int) ≤ 57)) := by
    unfold dgB
    rw [Bool.eq_iff_iff]
    simp only [Bool.and_eq_true, decide_eq_true_eq]
    omega
  rw [hv]
  clear hv
  cases h1 : decide ((48 : Int) ≤ (c.toNat : Int)) <;> cases h2 : decide ((c.toNat : Int) ≤ 57)
  all_goals
    go_enter Tryz.func85, Tryz.ntmps85
    go_wp2
    go_ret
    exact ⟨rfl, rfl⟩
theorem lower_is {c : UInt8} {v : Bool} (h : nmL c = v) (w : World) : Calls Tryz.prog 84 #[.int .u8 c.toNat] w fun e w' => e = .returned (.bool v) ∧ w' = w := by
  subst h; exact lower_any c w
theorem digit_is {c : UInt8} {v : Bool} (h : dgB c = v) (w : World) : Calls Tryz.prog 85 #[.int .u8 c.toNat] w fun e w' => e = .returned (.bool v) ∧ w' = w := by
  subst h; exact digit_any c w
theorem nmC_parts (c : UInt8) : nmC c = (nmL c || dgB c || !((c.toNat : Int) != 45)) := by
  unfold nmC nmL dgB
  rw [Bool.eq_iff_iff]
  simp only [Bool.or_eq_true, decide_eq_true_eq, Bool.not_eq_true', bne_eq_false_iff_eq]
  omega
set_option maxRecDepth 100000 in
set_option maxHeartbeats 8000000 in
theorem refName26_any (s : ByteArray) (w : World) (hs : s.size ≤ maxLen) : Calls Tryz.prog 43 #[.string s] w fun e w' => e = .returned (.bool (nmOk s)) ∧ w' = w := by
  unfold maxLen at hs
  by_cases h0 : s.size = 0
  · obtain rfl : s = ByteArray.empty := by simpa using h0
    rw [nm_none (.inl rfl)]
    go_enter Tryz.func43, Tryz.ntmps43
    go_wp2
    go_ret
    exact ⟨rfl, rfl⟩
  · have hp : 0 < s.size := by omega
    have d0 : decide ((s.size : Int) < 1) = false := decide_eq_false (by omega)
    by_cases h24 : 24 < s.size
    · have d1 : decide (24 < (s.size : Int)) = true := decide_eq_true (by omega)
      rw [nm_none (.inr h24)]
      clear h24
      go_enter Tryz.func43, Tryz.ntmps43
      go_wp2
      go_ret
      exact ⟨rfl, rfl⟩
    · have d1 : decide (24 < (s.size : Int)) = false := decide_eq_false (by omega)
      cases hl : nmL s[0]
      · have HN := Lib.hid (nm_head hp hl)
        have HLW := Lib.hid (fun W => lower_is hl W)
        clear hl h24
        go_enter Tryz.func43, Tryz.ntmps43
        go_wp2_with (go_at_call 84; (with_reducible refine (HLW.out _).mono ?_); rintro e w1 ⟨rfl, rfl⟩)
        go_ret
        exact ⟨ret_b HN.out.symm, rfl⟩
      · have HL0 := Lib.hid hl
        have H24 := Lib.hid h24
        have HLW := Lib.hid (fun W => lower_is hl W)
        clear hl h24
        go_enter Tryz.func43, Tryz.ntmps43
        go_wp2_with (go_at_call 84; (with_reducible refine (HLW.out _).mono ?_); rintro e w1 ⟨rfl, rfl⟩)
        clear d0 d1
        go_loopw [3] (fun iv wr => ∃ k : Nat, iv = .int .i64 k ∧ wr = w1 ∧ k ≤ s.size ∧ Hid (∀ j (hj : j < s.size), j < k → nmC s[j] = true)) (fun iv _ => s.size - (RowKit.intOf iv).toNat)
        case atStart => exact ⟨0, rfl, rfl, by omega, Lib.hid fun k _ h => absurd h (Nat.not_lt_zero k)⟩
        case round =>
          obtain ⟨k, rfl, rfl, hk, HA⟩ := hrel
          by_cases hlt : k < s.size
          · have hlt' : (k : Int) < (s.size : Int) := by omega
            have hk0 : (0 : Int) ≤ (k : Int) := by omega
            obtain ⟨v1, h1⟩ : ∃ v, nmL s[k] = v := ⟨_, rfl⟩
            obtain ⟨v2, h2⟩ : ∃ v, dgB s[k] = v := ⟨_, rfl⟩
            obtain ⟨v3, h3⟩ : ∃ v, ((s[k].toNat : Int) != 45) = v := ⟨_, rfl⟩
            have HP : Hid (nmC s[k] = (v1 || v2 || !v3)) := Lib.hid (by rw [nmC_parts, h1, h2, h3])
            have HW1 := Lib.hid (fun W => lower_is h1 W)
            have HW2 := Lib.hid (fun W => digit_is h2 W)
            have HLT := Lib.hid hlt
            clear h1 h2
            have hex : (v1 = false ∧ v2 = false ∧ v3 = true) ∨ v1 = true ∨ (v1 = false ∧ v2 = true) ∨ (v1 = false ∧ v2 = false ∧ v3 = false) := by
              cases v1 <;> cases v2 <;> cases v3 <;> simp
            rcases hex with ⟨rfl, rfl, rfl⟩ | rfl | ⟨rfl, rfl⟩ | ⟨rfl, rfl, rfl⟩
            · have HN := Lib.hid (nm_not HLT.out (by rw [HP.out]; rfl))
              go_wp2_with (first
                | (go_at_call 84; (with_reducible refine (HW1.out _).mono ?_); rintro e w1 ⟨rfl, rfl⟩)
                | (go_at_call 85; (with_reducible refine (HW2.out _).mono ?_); rintro e w1 ⟨rfl, rfl⟩))
              go_ret
              exact ⟨ret_b HN.out.symm, rfl⟩
            all_goals
              have HA2 : Hid (∀ j (hj : j < s.size), j < k + 1 → nmC s[j] = true) := Lib.hid fun j hj h => by
                rcases Nat.lt_or_ge j k with h | h
                · exact HA.out j hj h
                · obtain rfl : j = k := by omega
                  rw [HP.out]; simp
              go_wp2_with (first
                | (go_at_call 84; (with_reducible refine (HW1.out _).mono ?_); rintro e w1 ⟨rfl, rfl⟩)
                | (go_at_call 85; (with_reducible refine (HW2.out _).mono ?_); rintro e w1 ⟨rfl, rfl⟩))
              go_roundw
              case rel => exact ⟨k + 1, by go_num, by simp, by omega, HA2⟩
              case measure => simp [RowKit.intOf]; omega
          · obtain rfl : k = s.size := by omega
            have HY := Lib.hid (nm_yes hp (by have := H24.out; omega) HL0.out fun k hk => HA.out k hk hk)
            clear HA
            go_wp2_with fail
            go_ret
            exact ⟨ret_b HY.out.symm, rfl⟩
theorem rz1_any (x y : ByteArray) (S : Value) (kd su : Int) (bn : ByteArray) (S' : Value) (g : Nat) (W : World) (hB : Blk W g 63 #[.int .i64 kd, .string y, .string bn, .int .i64 su, S']) (v : Bool) (hv : (x.data.toList == y.data.toList) = v) :
    Calls Tryz.prog 75 #[.agg #[.string x, S], .pointer (some ⟨g, 0, none⟩)] W fun e w' => e = .returned (.bool v) ∧ Below W.heap.size W w' := by
  subst hv
  have h1 := (hB.alloc (.cells #[.string x, S] 57)).cell 1
  have h2 := Blk.new W 57 #[.string x, S]
  go_enter Tryz.func75, Tryz.ntmps75
  go_wp2
  go_ret
  exact ⟨ret_bool (Zn.sEq _ _), (Below.refl _ _).alloc (Nat.le_refl _) _⟩
set_option maxHeartbeats 4000000 in
theorem indexZ_any (A : Option Addr) (n m c : Nat) (l : List Zn.Zm) (y : ByteArray) (kd su : Int) (bn : ByteArray) (S' : Value) (g : Nat) (w : World) (hA : Zn.ZsR w A l) (hn : l.length = n) (hmn : m ≤ n) (hc : n ≤ c) (hm : c ≤ maxLen) (hB : Blk w g 63 #[.int .i64 kd, .string y, .string bn, .int .i64 su, S']) :
    Calls Tryz.prog 102 #[.slice A m c, .func (.func 75) #[] #[.pointer (some ⟨g, 0, none⟩)]] w fun e w' => (∃ v : Int, e = .returned (.int .i64 v) ∧ decide (0 ≤ v) = (l.take m).any (Zn.nmE y.data.toList)) ∧ Below w.heap.size w w' := by
  unfold maxLen at hm
  have HA := Lib.hid hA; have HN := Lib.hid hn; have HB := Lib.hid hB
  clear hA hn hB
  go_enter Tryz.func102, Tryz.ntmps102
  go_wp2_with fail
  go_loopw [8] (fun iv wr => ∃ k : Nat, iv = .int .i64 k ∧ k ≤ m ∧ Below w.heap.size w wr ∧ Hid (∀ j, j < k → Zn.nmE y.data.toList (l.getD j Zn.zm0) = false)) (fun iv _ => m - (RowKit.intOf iv).toNat)
  case atStart => exact ⟨0, rfl, by omega, Below.refl _ _, Lib.hid fun j h => absurd h (Nat.not_lt_zero j)⟩
  case round =>
    obtain ⟨k, rfl, hk, hb, HO⟩ := hrel
    have hs := hb.size
    by_cases hlt : k < m
    · obtain ⟨bk, off, S, c2, rfl, hbl, g0, g1, _⟩ := HA.out k (by rw [HN.out]; omega)
      have e0 := (hb.cell (p := ⟨bk, off + k * 2, none⟩) hbl).trans g0
      have e1 := (hb.cell (p := ⟨bk, off + k * 2 + 1, none⟩) hbl).trans g1
      have hlt' : (k : Int) < (m : Int) := by omega
      obtain ⟨⟨x, ss⟩, hp⟩ : ∃ p, l.getD k Zn.zm0 = p := ⟨_, rfl⟩
      rw [hp] at e0 e1
      simp only at e0 e1
      clear g0 g1
      cases hv : (x.data.toList == y.data.toList)
      · have HC := Lib.hid (rz1_any x y (.slice S ss.length c2) kd su bn S' g wr (HB.out.below hb HB.out.lt) _ hv)
        have HO2 : Hid (∀ j, j < k + 1 → Zn.nmE y.data.toList (l.getD j Zn.zm0) = false) := Lib.hid fun j h => by
          rcases Nat.lt_or_ge j k with h | h
          · exact HO.out j h
          · obtain rfl : j = k := by omega
            rw [hp]; exact hv
        clear hp hv HO
        go_wp2_with (go_at_call 75; (with_reducible refine HC.out.mono ?_); rintro e w1 ⟨rfl, hb1⟩; have hb2 := hb.trans (hb1.mono hs))
        go_roundw
        case rel => exact ⟨k + 1, by go_num, by omega, hb2, HO2⟩
        case measure => simp [RowKit.intOf]; omega
      · have HC := Lib.hid (rz1_any x y (.slice S ss.length c2) kd su bn S' g wr (HB.out.below hb HB.out.lt) _ hv)
        have HR := Lib.hid (Zn.any_take_yes (p := Zn.nmE y.data.toList) hlt (by rw [HN.out]; exact hmn) (by rw [hp]; exact hv))
        clear hp hv HO
        go_wp2_with (go_at_call 75; (with_reducible refine HC.out.mono ?_); rintro e w1 ⟨rfl, hb1⟩; have hb2 := hb.trans (hb1.mono hs))
        go_ret
        exact ⟨⟨k, rfl, by rw [HR.out]; exact decide_eq_true (by omega)⟩, hb2⟩
    · obtain rfl : k = m := by omega
      have HR := Lib.hid (Zn.any_take (p := Zn.nmE y.data.toList) (fun j hj => HO.out j hj) (by rw [HN.out]; exact hmn))
      clear HO
      go_wp2_with fail
      go_ret
      exact ⟨⟨-1, rfl, by rw [HR.out]; rfl⟩, hb⟩
set_option maxHeartbeats 1000000 in
theorem containsZ_is (A : Option Addr) (n m c : Nat) (l : List Zn.Zm) (y : ByteArray) (kd su : Int) (bn : ByteArray) (S' : Value) (g : Nat) (w : World) (hA : Zn.ZsR w A l) (hn : l.length = n) (hmn : m ≤ n) (hc : n ≤ c) (hm : c ≤ maxLen) (hB : Blk w g 63 #[.int .i64 kd, .string y, .string bn, .int .i64 su, S'])
    (v : Bool) (hv : (l.take m).any (Zn.nmE y.data.toList) = v) :
    Calls Tryz.prog 77 #[.slice A m c, .func (.func 75) #[] #[.pointer (some ⟨g, 0, none⟩)]] w fun e w' => e = .returned (.bool v) ∧ Below w.heap.size w w' := by
  have H := Lib.hid (indexZ_any A n m c l y kd su bn S' g w hA hn hmn hc hm hB)
  rw [hv] at H
  clear hA hn hB hv
  go_enter Tryz.func77, Tryz.ntmps77
  go_wp2_with (go_at_call 102; (with_reducible refine H.out.mono ?_); rintro e w1 ⟨⟨v1, rfl, hv1⟩, hb⟩)
  go_ret
  exact ⟨rfl, hb⟩
theorem rb1_any (x y : ByteArray) (S : Value) (kd su : Int) (zn : ByteArray) (S' : Value) (g : Nat) (W : World) (hB : Blk W g 63 #[.int .i64 kd, .string zn, .string y, .int .i64 su, S']) :
    Calls Tryz.prog 76 #[.agg #[.string x, S], .pointer (some ⟨g, 0, none⟩)] W fun e w' => e = .returned (.bool (decide (x = y))) ∧ Below W.heap.size W w' := by
  have h1 := (hB.alloc (.cells #[.string x, S] 60)).cell 2
  have h2 := Blk.new W 60 #[.string x, S]
  go_enter Tryz.func76, Tryz.ntmps76
  go_wp2
  go_ret
  exact ⟨ret_bool (sEq _ _), (Below.refl _ _).alloc (Nat.le_refl _) _⟩
theorem rb1_is (x y : ByteArray) (v : Bool) (hv : decide (x = y) = v) (S : Value) (kd su : Int) (zn : ByteArray) (S' : Value) (g : Nat) (W : World) (hB : Blk W g 63 #[.int .i64 kd, .string zn, .string y, .int .i64 su, S']) :
    Calls Tryz.prog 76 #[.agg #[.string x, S], .pointer (some ⟨g, 0, none⟩)] W fun e w' => e = .returned (.bool v) ∧ Below W.heap.size W w' := by
  subst hv; exact rb1_any x y S kd su zn S' g W hB
set_option maxHeartbeats 4000000 in
theorem indexR_any (A : Option Addr) (n m c : Nat) (l : List Bd) (y : ByteArray) (kd su : Int) (zn : ByteArray) (S' : Value) (g : Nat) (w : World) (hA : BdR w A l) (hn : l.length = n) (hmn : m ≤ n) (hc : n ≤ c) (hm : c ≤ maxLen) (hB : Blk w g 63 #[.int .i64 kd, .string zn, .string y, .int .i64 su, S']) :
    Calls Tryz.prog 101 #[.slice A m c, .func (.func 76) #[] #[.pointer (some ⟨g, 0, none⟩)]] w fun e w' => (∃ v : Int, e = .returned (.int .i64 v) ∧ decide (0 ≤ v) = (l.take m).any (fun e => decide (e.1 = y))) ∧ Below w.heap.size w w' := by
  unfold maxLen at hm
  have HA := Lib.hid hA; have HN := Lib.hid hn; have HB := Lib.hid hB
  clear hA hn hB
  go_enter Tryz.func101, Tryz.ntmps101
  go_wp2_with fail
  go_loopw [8] (fun iv wr => ∃ k : Nat, iv = .int .i64 k ∧ k ≤ m ∧ Below w.heap.size w wr ∧ Hid (∀ j, j < k → decide ((l.getD j bd0).1 = y) = false)) (fun iv _ => m - (RowKit.intOf iv).toNat)
  case atStart => exact ⟨0, rfl, by omega, Below.refl _ _, Lib.hid fun j h => absurd h (Nat.not_lt_zero j)⟩
  case round =>
    obtain ⟨k, rfl, hk, hb, HO⟩ := hrel
    have hs := hb.size
    by_cases hlt : k < m
    · obtain ⟨bk, off, S, c2, rfl, hbl, g0, g1, _⟩ := HA.out k (by rw [HN.out]; omega)
      have e0 := (hb.cell (p := ⟨bk, off + k * 2, none⟩) hbl).trans g0
      have e1 := (hb.cell (p := ⟨bk, off + k * 2 + 1, none⟩) hbl).trans g1
      have hlt' : (k : Int) < (m : Int) := by omega
      obtain ⟨⟨x, ss⟩, hp⟩ : ∃ p, l.getD k bd0 = p := ⟨_, rfl⟩
      rw [hp] at e0 e1
      simp only at e0 e1
      clear g0 g1
      cases hv : decide (x = y)
      · have HC := Lib.hid (rb1_is x y _ hv (.slice S ss.length c2) kd su zn S' g wr (HB.out.below hb HB.out.lt))
        have HO2 : Hid (∀ j, j < k + 1 → decide ((l.getD j bd0).1 = y) = false) := Lib.hid fun j h => by
          rcases Nat.lt_or_ge j k with h | h
          · exact HO.out j h
          · obtain rfl : j = k := by omega
            rw [hp]; exact hv
        clear hp hv HO
        go_wp2_with (go_at_call 76; (with_reducible refine HC.out.mono ?_); rintro e w1 ⟨rfl, hb1⟩; have hb2 := hb.trans (hb1.mono hs))
        go_roundw
        case rel => exact ⟨k + 1, by go_num, by omega, hb2, HO2⟩
        case measure => simp [RowKit.intOf]; omega
      · have HC := Lib.hid (rb1_is x y _ hv (.slice S ss.length c2) kd su zn S' g wr (HB.out.below hb HB.out.lt))
        have HR := Lib.hid (any_take_yes (p := fun e => decide (e.1 = y)) hlt (by rw [HN.out]; exact hmn) (by rw [hp]; exact hv))
        clear hp hv HO
        go_wp2_with (go_at_call 76; (with_reducible refine HC.out.mono ?_); rintro e w1 ⟨rfl, hb1⟩; have hb2 := hb.trans (hb1.mono hs))
        go_ret
        exact ⟨⟨k, rfl, by rw [HR.out]; exact decide_eq_true (by omega)⟩, hb2⟩
    · obtain rfl : k = m := by omega
      have HR := Lib.hid (any_take (p := fun e => decide (e.1 = y)) (fun j hj => HO.out j hj) (by rw [HN.out]; exact hmn))
      clear HO
      go_wp2_with fail
      go_ret
      exact ⟨⟨-1, rfl, by rw [HR.out]; rfl⟩, hb⟩
set_option maxHeartbeats 1000000 in
theorem containsR_is (A : Option Addr) (n m c : Nat) (l : List Bd) (y : ByteArray) (kd su : Int) (zn : ByteArray) (S' : Value) (g : Nat) (w : World) (hA : BdR w A l) (hn : l.length = n) (hmn : m ≤ n) (hc : n ≤ c) (hm : c ≤ maxLen) (hB : Blk w g 63 #[.int .i64 kd, .string zn, .string y, .int .i64 su, S'])
    (v : Bool) (hv : (l.take m).any (fun e => decide (e.1 = y)) = v) :
    Calls Tryz.prog 72 #[.slice A m c, .func (.func 76) #[] #[.pointer (some ⟨g, 0, none⟩)]] w fun e w' => e = .returned (.bool v) ∧ Below w.heap.size w w' := by
  have H := Lib.hid (indexR_any A n m c l y kd su zn S' g w hA hn hmn hc hm hB)
  rw [hv] at H
  clear hA hn hB hv
  go_enter Tryz.func72, Tryz.ntmps72
  go_wp2_with (go_at_call 101; (with_reducible refine H.out.mono ?_); rintro e w1 ⟨⟨v1, rfl, hv1⟩, hb⟩)
  go_ret
  exact ⟨rfl, hb⟩
end Go.Proofs.YtpkmnefbofhjbaaGreat.Ck
