/- Walks: the reference's Name; which zones and bands a rate may name. -/
import Derived.Test.YtbfficialcnedaaCkE
import Derived.Test.YtbfficialcnedaaBdC
import Derived.Test.YtbfficialcnedaaZnI
import Derived.Deep.Quiet
namespace Go.Proofs.Ytbfficialcnedaa.Ck
open Go Go.Lib Go.RowKit Go.Proofs.Ytbfficialcnedaa Go.Maps

def dgB (c : UInt8) : Bool := decide (48 ≤ c.toNat ∧ c.toNat ≤ 57)
theorem nmC_parts (c : UInt8) : nmC c = (nmL c || dgB c || !((c.toNat : Int) != 45)) := by
  unfold nmC nmL dgB
  rw [Bool.eq_iff_iff]
  simp only [Bool.or_eq_true, decide_eq_true_eq, Bool.not_eq_true', bne_eq_false_iff_eq]
  omega
theorem rz1_any (x y : ByteArray) (S : Value) (kd su : Int) (bn : ByteArray) (S' : Value) (g : Nat) (W : World) (hB : Blk W g 76 #[.int .i64 kd, .string y, .string bn, .int .i64 su, S']) (v : Bool) (hv : (x.data.toList == y.data.toList) = v) :
    Calls Try.prog 77 #[.agg #[.string x, S], .pointer (some ⟨g, 0, none⟩)] W fun e w' => e = .returned (.bool v) ∧ Below W.heap.size W w' := by
  subst hv
  have h1 := (hB.alloc (.cells #[.string x, S] 54)).cell 1
  have h2 := Blk.new W 54 #[.string x, S]
  go_enter Try.func77, Try.ntmps77
  go_wp2
  go_ret
  exact ⟨ret_bool (Zn.sEq _ _), (Below.refl _ _).alloc (Nat.le_refl _) _⟩
set_option maxHeartbeats 4000000 in
theorem indexZ_any (A : Option Addr) (n m c : Nat) (l : List Zn.Zm) (y : ByteArray) (kd su : Int) (bn : ByteArray) (S' : Value) (g : Nat) (w : World) (hA : Zn.ZsR w A l) (hn : l.length = n) (hmn : m ≤ n) (hc : n ≤ c) (hm : c ≤ maxLen) (hB : Blk w g 76 #[.int .i64 kd, .string y, .string bn, .int .i64 su, S']) :
    Calls Try.prog 89 #[.slice A m c, .func (.func 77) #[] #[.pointer (some ⟨g, 0, none⟩)]] w fun e w' => (∃ v : Int, e = .returned (.int .i64 v) ∧ decide (0 ≤ v) = (l.take m).any (Zn.nmE y.data.toList)) ∧ Below w.heap.size w w' := by
  unfold maxLen at hm
  have HA := Lib.hid hA; have HN := Lib.hid hn; have HB := Lib.hid hB
  clear hA hn hB
  go_enter Try.func89, Try.ntmps89
  go_wp2_with fail
  go_loopw [8] (fun iv wr => ∃ k : Nat, iv = .int .i64 k ∧ k ≤ m ∧ Below w.heap.size w wr ∧ Hid (∀ j, j < k → Zn.nmE y.data.toList (l.getD j Zn.zm0) = false)) (fun iv _ => m - (RowKit.intOf iv).toNat)
  case atStart => exact ⟨0, rfl, by omega, Below.refl _ _, Lib.hid fun j h => absurd h (Nat.not_lt_zero j)⟩
  case round =>
    obtain ⟨k, rfl, hk, hb, HO⟩ := hrel
    have hs := hb.size
    by_cases hlt : k < m
    · obtain ⟨bk, off, S, c2, rfl, hbl, g0, g1, _⟩ := HA.out k (by rw [HN.out]; omega)
      have e0 := (hb.cell (p := ⟨bk, off + k * 2, none⟩) hbl).trans g0
      have e1 := (hb.cell (p := ⟨bk, off + k * 2 + 1, none⟩) hbl).trans g1
      have hlt' : (k : Int) < (m : Int) := by omega
      obtain ⟨⟨x, ss⟩, hp⟩ : ∃ p, l.getD k Zn.zm0 = p := ⟨_, rfl⟩
      rw [hp] at e0 e1
      simp only at e0 e1
      clear g0 g1
      cases hv : (x.data.toList == y.data.toList)
      · have HC := Lib.hid (rz1_any x y (.slice S ss.length c2) kd su bn S' g wr (HB.out.below hb HB.out.lt) _ hv)
        have HO2 : Hid (∀ j, j < k + 1 → Zn.nmE y.data.toList (l.getD j Zn.zm0) = false) := Lib.hid fun j h => by
          rcases Nat.lt_or_ge j k with h | h
          · exact HO.out j h
          · obtain rfl : j = k := by omega
            rw [hp]; exact hv
        clear hp hv HO
        go_wp2_with (go_at_call 77; (with_reducible refine HC.out.mono ?_); rintro e w1 ⟨rfl, hb1⟩; have hb2 := hb.trans (hb1.mono hs))
        go_roundw
        case rel => exact ⟨k + 1, by go_num, by omega, hb2, HO2⟩
        case measure => simp [RowKit.intOf]; omega
      · have HC := Lib.hid (rz1_any x y (.slice S ss.length c2) kd su bn S' g wr (HB.out.below hb HB.out.lt) _ hv)
        have HR := Lib.hid (Zn.any_take_yes (p := Zn.nmE y.data.toList) hlt (by rw [HN.out]; exact hmn) (by rw [hp]; exact hv))
        clear hp hv HO
        go_wp2_with (go_at_call 77; (with_reducible refine HC.out.mono ?_); rintro e w1 ⟨rfl, hb1⟩; have hb2 := hb.trans (hb1.mono hs))
        go_ret
        exact ⟨⟨k, rfl, by rw [HR.out]; exact decide_eq_true (by omega)⟩, hb2⟩
    · obtain rfl : k = m := by omega
      have HR := Lib.hid (Zn.any_take (p := Zn.nmE y.data.toList) (fun j hj => HO.out j hj) (by rw [HN.out]; exact hmn))
      clear HO
      go_wp2_with fail
      go_ret
      exact ⟨⟨-1, rfl, by rw [HR.out]; rfl⟩, hb⟩
set_option maxHeartbeats 1000000 in
theorem containsZ_is (A : Option Addr) (n m c : Nat) (l : List Zn.Zm) (y : ByteArray) (kd su : Int) (bn : ByteArray) (S' : Value) (g : Nat) (w : World) (hA : Zn.ZsR w A l) (hn : l.length = n) (hmn : m ≤ n) (hc : n ≤ c) (hm : c ≤ maxLen) (hB : Blk w g 76 #[.int .i64 kd, .string y, .string bn, .int .i64 su, S'])
    (v : Bool) (hv : (l.take m).any (Zn.nmE y.data.toList) = v) :
    Calls Try.prog 79 #[.slice A m c, .func (.func 77) #[] #[.pointer (some ⟨g, 0, none⟩)]] w fun e w' => e = .returned (.bool v) ∧ Below w.heap.size w w' := by
  have H := Lib.hid (indexZ_any A n m c l y kd su bn S' g w hA hn hmn hc hm hB)
  rw [hv] at H
  clear hA hn hB hv
  go_enter Try.func79, Try.ntmps79
  go_wp2_with (go_at_call 89; (with_reducible refine H.out.mono ?_); rintro e w1 ⟨⟨v1, rfl, hv1⟩, hb⟩)
  go_ret
  exact ⟨rfl, hb⟩
theorem rb1_any (x y : ByteArray) (S : Value) (kd su : Int) (zn : ByteArray) (S' : Value) (g : Nat) (W : World) (hB : Blk W g 76 #[.int .i64 kd, .string zn, .string y, .int .i64 su, S']) :
    Calls Try.prog 78 #[.agg #[.string x, S], .pointer (some ⟨g, 0, none⟩)] W fun e w' => e = .returned (.bool (decide (x = y))) ∧ Below W.heap.size W w' := by
  have h1 := (hB.alloc (.cells #[.string x, S] 73)).cell 2
  have h2 := Blk.new W 73 #[.string x, S]
  go_enter Try.func78, Try.ntmps78
  go_wp2
  go_ret
  exact ⟨ret_bool (sEq _ _), (Below.refl _ _).alloc (Nat.le_refl _) _⟩
theorem rb1_is (x y : ByteArray) (v : Bool) (hv : decide (x = y) = v) (S : Value) (kd su : Int) (zn : ByteArray) (S' : Value) (g : Nat) (W : World) (hB : Blk W g 76 #[.int .i64 kd, .string zn, .string y, .int .i64 su, S']) :
    Calls Try.prog 78 #[.agg #[.string x, S], .pointer (some ⟨g, 0, none⟩)] W fun e w' => e = .returned (.bool v) ∧ Below W.heap.size W w' := by
  subst hv; exact rb1_any x y S kd su zn S' g W hB
set_option maxHeartbeats 4000000 in
theorem indexR_any (A : Option Addr) (n m c : Nat) (l : List Bd) (y : ByteArray) (kd su : Int) (zn : ByteArray) (S' : Value) (g : Nat) (w : World) (hA : BdR w A l) (hn : l.length = n) (hmn : m ≤ n) (hc : n ≤ c) (hm : c ≤ maxLen) (hB : Blk w g 76 #[.int .i64 kd, .string zn, .string y, .int .i64 su, S']) :
    Calls Try.prog 88 #[.slice A m c, .func (.func 78) #[] #[.pointer (some ⟨g, 0, none⟩)]] w fun e w' => (∃ v : Int, e = .returned (.int .i64 v) ∧ decide (0 ≤ v) = (l.take m).any (fun e => decide (e.1 = y))) ∧ Below w.heap.size w w' := by
  unfold maxLen at hm
  have HA := Lib.hid hA; have HN := Lib.hid hn; have HB := Lib.hid hB
  clear hA hn hB
  go_enter Try.func88, Try.ntmps88
  go_wp2_with fail
  go_loopw [8] (fun iv wr => ∃ k : Nat, iv = .int .i64 k ∧ k ≤ m ∧ Below w.heap.size w wr ∧ Hid (∀ j, j < k → decide ((l.getD j bd0).1 = y) = false)) (fun iv _ => m - (RowKit.intOf iv).toNat)
  case atStart => exact ⟨0, rfl, by omega, Below.refl _ _, Lib.hid fun j h => absurd h (Nat.not_lt_zero j)⟩
  case round =>
    obtain ⟨k, rfl, hk, hb, HO⟩ := hrel
    have hs := hb.size
    by_cases hlt : k < m
    · obtain ⟨bk, off, S, c2, rfl, hbl, g0, g1, _⟩ := HA.out k (by rw [HN.out]; omega)
      have e0 := (hb.cell (p := ⟨bk, off + k * 2, none⟩) hbl).trans g0
      have e1 := (hb.cell (p := ⟨bk, off + k * 2 + 1, none⟩) hbl).trans g1
      have hlt' : (k : Int) < (m : Int) := by omega
      obtain ⟨⟨x, ss⟩, hp⟩ : ∃ p, l.getD k bd0 = p := ⟨_, rfl⟩
      rw [hp] at e0 e1
      simp only at e0 e1
      clear g0 g1
      cases hv : decide (x = y)
      · have HC := Lib.hid (rb1_is x y _ hv (.slice S ss.length c2) kd su zn S' g wr (HB.out.below hb HB.out.lt))
        have HO2 : Hid (∀ j, j < k + 1 → decide ((l.getD j bd0).1 = y) = false) := Lib.hid fun j h => by
          rcases Nat.lt_or_ge j k with h | h
          · exact HO.out j h
          · obtain rfl : j = k := by omega
            rw [hp]; exact hv
        clear hp hv HO
        go_wp2_with (go_at_call 78; (with_reducible refine HC.out.mono ?_); rintro e w1 ⟨rfl, hb1⟩; have hb2 := hb.trans (hb1.mono hs))
        go_roundw
        case rel => exact ⟨k + 1, by go_num, by omega, hb2, HO2⟩
        case measure => simp [RowKit.intOf]; omega
      · have HC := Lib.hid (rb1_is x y _ hv (.slice S ss.length c2) kd su zn S' g wr (HB.out.below hb HB.out.lt))
        have HR := Lib.hid (any_take_yes (p := fun e => decide (e.1 = y)) hlt (by rw [HN.out]; exact hmn) (by rw [hp]; exact hv))
        clear hp hv HO
        go_wp2_with (go_at_call 78; (with_reducible refine HC.out.mono ?_); rintro e w1 ⟨rfl, hb1⟩; have hb2 := hb.trans (hb1.mono hs))
        go_ret
        exact ⟨⟨k, rfl, by rw [HR.out]; exact decide_eq_true (by omega)⟩, hb2⟩
    · obtain rfl : k = m := by omega
      have HR := Lib.hid (any_take (p := fun e => decide (e.1 = y)) (fun j hj => HO.out j hj) (by rw [HN.out]; exact hmn))
      clear HO
      go_wp2_with fail
      go_ret
      exact ⟨⟨-1, rfl, by rw [HR.out]; rfl⟩, hb⟩
set_option maxHeartbeats 1000000 in
theorem containsR_is (A : Option Addr) (n m c : Nat) (l : List Bd) (y : ByteArray) (kd su : Int) (zn : ByteArray) (S' : Value) (g : Nat) (w : World) (hA : BdR w A l) (hn : l.length = n) (hmn : m ≤ n) (hc : n ≤ c) (hm : c ≤ maxLen) (hB : Blk w g 76 #[.int .i64 kd, .string zn, .string y, .int .i64 su, S'])
    (v : Bool) (hv : (l.take m).any (fun e => decide (e.1 = y)) = v) :
    Calls Try.prog 74 #[.slice A m c, .func (.func 78) #[] #[.pointer (some ⟨g, 0, none⟩)]] w fun e w' => e = .returned (.bool v) ∧ Below w.heap.size w w' := by
  have H := Lib.hid (indexR_any A n m c l y kd su zn S' g w hA hn hmn hc hm hB)
  rw [hv] at H
  clear hA hn hB hv
  go_enter Try.func74, Try.ntmps74
  go_wp2_with (go_at_call 88; (with_reducible refine H.out.mono ?_); rintro e w1 ⟨⟨v1, rfl, hv1⟩, hb⟩)
  go_ret
  exact ⟨rfl, hb⟩
end Go.Proofs.Ytbfficialcnedaa.Ck
