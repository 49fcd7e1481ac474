/- Walks: the band of an instant, in the reference. -/
import Derived.Test.YtpbohnlfiaigjaaBdO2
namespace Go.Proofs.Ytpbohnlfiaigjaa
open Go.RowKit

set_option maxHeartbeats 2000000 in
theorem bit_any (A : Option Addr) (n c : Nat) (l : List Int) (d : Int) (w : World) (hA : IR w A l) (hn : l.length = n) (hc : n ≤ c) (hm : c ≤ maxLen) (h1 : 0 ≤ d) (h2 : d < 146097) :
    Calls Try.prog 78 #[.slice A n c, .int .i64 d] w fun e w' => e = .returned (.int .i64 (bitOf l d)) ∧ w = w' := by
  unfold maxLen at hm
  have HA := Lib.hid hA; have HN := Lib.hid hn
  have HW := Lib.hid (fun W => refWeekdayN d W h1 h2)
  have HV : Hid (∀ v, l.contains d = v → (bitOf l d : Int) = if v then 7 else (d + 5) % 7) := Lib.hid (fun v hv => by unfold bitOf; rw [hv]; cases v <;> simp <;> omega)
  clear hA hn h1 h2
  go_enter Try.func78, Try.ntmps78
  go_wp2_with fail
  go_loopw [5] (fun iv wr => ∃ k : Nat, iv = .int .i64 k ∧ k ≤ n ∧ wr = w ∧ Hid (∀ j, j < k → (d == l.getD j 0) = false)) (fun iv _ => n - (intOf iv).toNat)
  case atStart => exact ⟨0, rfl, by omega, rfl, Lib.hid fun j h => absurd h (Nat.not_lt_zero j)⟩
  case round =>
    obtain ⟨k, rfl, hk, rfl, HO⟩ := hrel
    by_cases hlt : k < n
    · have hkl : k < l.length := by rw [HN.out]; exact hlt
      obtain ⟨bk, off, rfl, hbl, e0⟩ := HA.out k hkl
      have hlt' : (k : Int) < (n : Int) := by omega
      obtain ⟨y, hp⟩ : ∃ p, l.getD k 0 = p := ⟨_, rfl⟩
      rw [hp] at e0
      cases hv : (y == d)
      · have HO2 : Hid (∀ j, j < k + 1 → (d == l.getD j 0) = false) := Lib.hid fun j h => by
          rcases Nat.lt_or_ge j k with h | h
          · exact HO.out j h
          · obtain rfl : j = k := by omega
            rw [hp]; simp at hv ⊢; omega
        clear hp HO hkl
        go_wp2_with fail
        go_roundw
        case rel => exact ⟨k + 1, by go_num, by omega, trivial, HO2⟩
        case measure => simp [intOf]; omega
      · have HR := Lib.hid (HV.out _ (con_yes hkl (by rw [hp]; simp at hv ⊢; omega)))
        clear hp HO hkl
        go_wp2_with fail
        go_ret
        exact ⟨ret_i64 HR.out.symm, rfl⟩
    · obtain rfl : k = n := by omega
      have HR := Lib.hid (HV.out _ (con_no (fun j hj => HO.out j (by rwa [HN.out] at hj))))
      clear HO
      go_wp2_with (go_at_call 95; (with_reducible refine (HW.out _).mono ?_); rintro e w2 ⟨rfl, rfl⟩)
      go_ret
      exact ⟨ret_i64 HR.out.symm, rfl⟩
theorem inS_ref {bit : Nat} {d f t m : Int} {x : Int} {v1 v2 v3 : Bool} (h1 : 0 ≤ d) (hx : (d / (2 : Int) ^ bit).tmod 2 = x) (e1 : (x == 1) = v1) (e2 : decide (f ≤ m) = v2) (e3 : decide (m < t) = v3) :
    inS bit m (d, f, t) = (v1 && (v2 && v3)) := by
  have hp : ((2 ^ bit : Nat) : Int) = (2 : Int) ^ bit := by simp
  have h2 : 0 ≤ d / (2 : Int) ^ bit := Int.ediv_nonneg h1 (by rw [← hp]; exact Int.natCast_nonneg _)
  have h3 : x = d / (2 : Int) ^ bit % 2 := by rw [← hx, Int.tmod_eq_emod_of_nonneg h2]
  unfold inS
  rw [hp, ← h3, ← e1, ← e2, ← e3]
  simp only [Bool.decide_and]
  rfl
theorem slots_step {l : List Sl} {k : Nat} {p : Sl → Bool} {q : Sl} (h : ∀ j, j < k → p (l.getD j sl0) = false) (hq : l.getD k sl0 = q) (hp : p q = false) : ∀ j, j < k + 1 → p (l.getD j sl0) = false := fun j hj => by
  rcases Nat.lt_or_ge j k with h' | h'
  · exact h j h'
  · obtain rfl : j = k := by omega
    rw [hq]; exact hp
set_option maxHeartbeats 4000000 in
theorem refat_any (A B : Option Addr) (n c m c' : Nat) (l : List Bd) (hol : List Int) (t : Int) (w : World) (hA : BdR w A l) (hn : l.length = n) (hc : n ≤ c) (hm : c ≤ maxLen) (hB : IR w B hol) (hh : hol.length = m) (hc' : m ≤ c') (hm' : c' ≤ maxLen)
    (hok : ∀ b ∈ l, ∀ s ∈ b.2, okS s = true) (hne : l ≠ []) (ht : 0 ≤ t) (ht2 : t < 12622780800) :
    Calls Try.prog 51 #[.slice A n c, .slice B m c', .int .i64 t] w fun e w' => e = .returned (.string (atV l hol t)) ∧ Below w.heap.size w w' := by
  obtain ⟨day, hday⟩ : ∃ d, t / 86400 = d := ⟨_, rfl⟩
  obtain ⟨mi, hmi⟩ : ∃ d, t % 86400 / 60 = d := ⟨_, rfl⟩
  obtain ⟨bit, hbit⟩ : ∃ b, bitOf hol day = b := ⟨_, rfl⟩
  have hb8 := bitOf_lt hol day
  have HBI := Lib.hid (bit_any B m c' hol day w hB hh hc' hm' (by omega) (by omega))
  rw [hbit] at HBI hb8
  have HV : Hid (atV l hol t = atB bit mi l) := Lib.hid (by unfold atV; rw [hday, hmi, hbit])
  have HA := Lib.hid hA; have HN := Lib.hid hn; have HM := Lib.hid hm; have HOK := Lib.hid hok; have HNE := Lib.hid hne
  have hn0 : 0 < n := by rw [← hn]; exact List.length_pos_iff.2 hne
  clear hA hB hbit hn hh hm hok hne
  unfold maxLen at hm'
  go_enter Try.func51, Try.ntmps51
  go_wp2_with (go_at_call 78; (with_reducible refine HBI.out.mono ?_); rintro e w2 ⟨rfl, rfl⟩)
  have hmx := HM.out
  unfold maxLen at hmx
  rw [hmi]
  clear hday hmi ht ht2
  go_loopw [9] (fun iv wr => ∃ k : Nat, iv = .int .i64 k ∧ k ≤ n ∧ Below w.heap.size w wr ∧ Hid (∀ j, j < k → (l.getD j bd0).2.any (inS bit mi) = false)) (fun iv _ => n - (intOf iv).toNat)
  case atStart => exact ⟨0, rfl, by omega, Below.refl _ _, Lib.hid fun j h => absurd h (Nat.not_lt_zero j)⟩
  case round =>
    obtain ⟨k, rfl, hk, hb, HO⟩ := hrel
    have hs := hb.size
    by_cases hlt : k < n
    · obtain ⟨bk, off, S, c2, rfl, hbl, q0, q1, q2, q3, q4, _⟩ := HA.out k (by rw [HN.out]; omega)
      have hlt' : (k : Int) < (n : Int) := by omega
      obtain ⟨⟨x, ss⟩, hp⟩ : ∃ p, l.getD k bd0 = p := ⟨_, rfl⟩
      rw [hp] at q0 q1 q2 q4
      simp only at q0 q1 q2 q4
      obtain ⟨L, hL⟩ : ∃ L, ss.length = L := ⟨_, rfl⟩
      rw [hL] at q1 q2
      have hmem : (x, ss) ∈ l := by rw [← hp]; simp [List.getD, List.getElem?_eq_getElem (show k < l.length by rw [HN.out]; exact hlt)]
      have HP := Lib.hid hp; have HL := Lib.hid hL
      have HQ := Lib.hid (show bk < w.heap.size ∧ w.cell? ⟨bk, off + k * 2, none⟩ = some (.string x) ∧ w.cell? ⟨bk, off + k * 2 + 1, none⟩ = some (.slice S L c2) ∧ SlR w S ss from ⟨hbl, q0, q1, q4⟩)
      have HOS := Lib.hid (HOK.out _ hmem)
      have hc2 := q3
      unfold maxLen at hc2
      clear q0 q1 q3 q4 hmem hL hp
      go_wp2_with fail
      go_loopw [10] (fun jv wx => ∃ j : Nat, jv = .int .i64 j ∧ j ≤ L ∧ Below w.heap.size w wx ∧ Hid (∀ i, i < j → inS bit mi (ss.getD i sl0) = false)) (fun jv _ => L - (intOf jv).toNat)
      case atStart => exact ⟨0, rfl, by omega, hb, Lib.hid fun j h => absurd h (Nat.not_lt_zero j)⟩
      case round =>
        clear hb hs
        obtain ⟨j, rfl, hj, hb, HJ⟩ := hrel
        have hs := hb.size
        have e0 := (hb.cell (p := ⟨bk, off + k * 2, none⟩) HQ.out.1).trans HQ.out.2.1
        have e1 := (hb.cell (p := ⟨bk, off + k * 2 + 1, none⟩) HQ.out.1).trans HQ.out.2.2.1
        by_cases hjl : j < L
        · have hjl2 : j < ss.length := by rw [HL.out]; exact hjl
          obtain ⟨bj, off2, rfl, hbl2, g0, g4, g5⟩ := HQ.out.2.2.2 j hjl2
          have f0 := (hb.cell (p := ⟨bj, off2 + j * 3, none⟩) hbl2).trans g0
          have f1 := (hb.cell (p := ⟨bj, off2 + j * 3 + 1, none⟩) hbl2).trans g4
          have f2 := (hb.cell (p := ⟨bj, off2 + j * 3 + 2, none⟩) hbl2).trans g5
          have hjl' : (j : Int) < (L : Int) := by omega
          obtain ⟨⟨d, f, u⟩, hp⟩ : ∃ p, ss.getD j sl0 = p := ⟨_, rfl⟩
          rw [hp] at f0 f1 f2
          simp only at f0 f1 f2
          have hd := sl_at HOS.out hjl2 hp
          clear g0 g4 g5
          obtain ⟨y, hy⟩ : ∃ y, (d / (2 : Int) ^ bit).tmod 2 = y := ⟨_, rfl⟩
          have HX := Lib.hid (fun v1 v2 v3 => inS_ref (f := f) (t := u) (m := mi) (v1 := v1) (v2 := v2) (v3 := v3) hd.1 hy)
          have HPP := Lib.hid hp
          clear hd hp
          cases e3 : (y == 1) <;> cases e4 : decide (f ≤ mi) <;> cases e5 : decide (mi < u)
          all_goals
            have hv := HX.out _ _ _ e3 e4 e5
            simp only [Bool.false_and, Bool.true_and, Bool.and_false, Bool.and_true] at hv
          rotate_right 1
          · have HR : Hid (atB bit mi l = x) := Lib.hid (atB_hit (show k < l.length by rw [HN.out]; exact hlt) HP.out HO.out (sl_any_yes (p := inS bit mi) hjl2 (by rw [HPP.out]; exact hv)))
            have e0a := (((Below.refl _ wr).alloc (Nat.le_refl _) (.cells #[.int .i64 d, .int .i64 f, .int .i64 u] 88)).cell (p := ⟨bk, off + k * 2, none⟩) (Nat.lt_of_lt_of_le HQ.out.1 hs)).trans e0
            clear hv HJ HX
            go_wp2_with fail
            go_ret
            exact ⟨ret_str (HV.out.trans HR.out).symm, hb.alloc hs _⟩
          all_goals
            have HJ2 := Lib.hid (slots_step (p := inS bit mi) HJ.out HPP.out hv)
            clear hv HJ HX
            go_wp2_with fail
            go_roundw
            case rel => exact ⟨j + 1, by go_num, by omega, hb.alloc hs _, HJ2⟩
            case measure => simp [intOf]; omega
        · obtain rfl : j = L := by omega
          have HO2 : Hid (∀ i, i < k + 1 → (l.getD i bd0).2.any (inS bit mi) = false) := Lib.hid fun i h => by
            rcases Nat.lt_or_ge i k with h | h
            · exact HO.out i h
            · obtain rfl : i = k := by omega
              rw [HP.out]; exact sl_any_no (p := inS bit mi) (fun i hi => HJ.out i (by rwa [HL.out] at hi))
          clear HO HJ
          go_wp2_with fail
          go_roundw
          case rel => exact ⟨k + 1, by go_num, by omega, hb, HO2⟩
          case measure => simp [intOf]; omega
    · obtain rfl : k = n := by omega
      obtain ⟨bk, off, S, c2, rfl, hbl, q0, _⟩ := HA.out (k - 1) (by rw [HN.out]; omega)
      have e0 := (hb.cell (p := ⟨bk, off + (k - 1) * 2, none⟩) hbl).trans q0
      obtain ⟨⟨x, ss⟩, hp⟩ : ∃ p, l.getD (k - 1) bd0 = p := ⟨_, rfl⟩
      rw [hp] at e0
      simp only at e0
      have HR : Hid (atB bit mi l = x) := Lib.hid (atB_end HNE.out HN.out hp HO.out)
      have e2 : ((k : Int) - 1).toNat = k - 1 := by omega
      clear hp q0 HO
      go_wp2_with fail
      go_ret
      exact ⟨ret_str (HV.out.trans HR.out).symm, hb⟩
theorem bandOf_is (A B : Option Addr) (n c m c' : Nat) (l : List Bd) (hol : List Int) (t : Int) (v : ByteArray) (hv : atV l hol t = v) (w : World) (hA : BdR w A l) (hn : l.length = n) (hc : n ≤ c) (hm : c ≤ maxLen) (hB : IR w B hol) (hh : hol.length = m) (hc' : m ≤ c') (hm' : c' ≤ maxLen)
    (hok : ∀ b ∈ l, ∀ s ∈ b.2, okS s = true) (hne : l ≠ []) (ht : 0 ≤ t) (ht2 : t < 12622780800) :
    Calls Try.prog 50 #[.slice A n c, .slice B m c', .int .i64 t] w fun e w' => e = .returned (.string v) ∧ Below w.heap.size w w' := by
  subst hv; exact bandOf_any A B n c m c' l hol t w hA hn hc hm hB hh hc' hm' hok hne ht ht2
theorem refat_is (A B : Option Addr) (n c m c' : Nat) (l : List Bd) (hol : List Int) (t : Int) (v : ByteArray) (hv : atV l hol t = v) (w : World) (hA : BdR w A l) (hn : l.length = n) (hc : n ≤ c) (hm : c ≤ maxLen) (hB : IR w B hol) (hh : hol.length = m) (hc' : m ≤ c') (hm' : c' ≤ maxLen)
    (hok : ∀ b ∈ l, ∀ s ∈ b.2, okS s = true) (hne : l ≠ []) (ht : 0 ≤ t) (ht2 : t < 12622780800) :
    Calls Try.prog 51 #[.slice A n c, .slice B m c', .int .i64 t] w fun e w' => e = .returned (.string v) ∧ Below w.heap.size w w' := by
  subst hv; exact refat_any A B n c m c' l hol t w hA hn hc hm hB hh hc' hm' hok hne ht ht2
theorem check_is (A : Option Addr) (n c : Nat) (l : List Bd) (v : Int) (hv : ckB l = v) (w : World) (hA : BdR w A l) (hn : l.length = n) (hc : n ≤ c) (hm : c ≤ maxLen) :
    Calls Try.prog 15 #[.slice A n c] w fun e w' => e = .returned (.int .i64 v) ∧ Below w.heap.size w w' := by
  subst hv; exact check_any A n c l w hA hn hc hm
theorem refCheck_is (A : Option Addr) (n c : Nat) (l : List Bd) (v : Int) (hv : ckB l = v) (w : World) (hA : BdR w A l) (hn : l.length = n) (hc : n ≤ c) (hm : c ≤ maxLen) :
    Calls Try.prog 16 #[.slice A n c] w fun e w' => e = .returned (.int .i64 v) ∧ Below w.heap.size w w' := by
  subst hv; exact refCheck_any A n c l w hA hn hc hm
/-- What At returns. -/
def atW (l : List Bd) (hol : List Int) (t : Int) : ByteArray := if ckB l = 0 ∧ 0 ≤ t ∧ t < 12622780800 then atV l hol t else ByteArray.empty
set_option maxHeartbeats 2000000 in
theorem at_any (A B : Option Addr) (n c m c' : Nat) (l : List Bd) (hol : List Int) (t : Int) (w : World) (hA : BdR w A l) (hn : l.length = n) (hc : n ≤ c) (hm : c ≤ maxLen) (hB : IR w B hol) (hh : hol.length = m) (hc' : m ≤ c') (hm' : c' ≤ maxLen) :
    Calls Try.prog 18 #[.slice A n c, .slice B m c', .int .i64 t] w fun e w' => e = .returned (.string (atW l hol t)) ∧ Below w.heap.size w w' := by
  obtain ⟨ev, hev⟩ : ∃ v, ckB l = v := ⟨_, rfl⟩
  have HC := Lib.hid (check_is A n c l ev hev w hA hn hc hm)
  by_cases hz : ev = 0
  · subst hz
    cases d1 : decide (t < 0)
    · cases d2 : decide (12622780800 ≤ t)
      · have h1 := of_decide_eq_false d1
        have h2 := of_decide_eq_false d2
        obtain ⟨g1, g2, g3, g4, g5⟩ := ckB_0 hev
        obtain ⟨v, hv⟩ : ∃ v, atV l hol t = v := ⟨_, rfl⟩
        have HR : Hid (atW l hol t = v) := Lib.hid (by unfold atW; rw [if_pos ⟨hev, by omega, by omega⟩, hv])
        have HB := Lib.hid (fun W h1 h2 => bandOf_is A B n c m c' l hol t v hv W h1 hn hc hm h2 hh hc' hm' g5 g1 (by omega) (by omega))
        have HA := Lib.hid hA; have HI := Lib.hid hB
        clear hA hB hn hm hh hm' h1 h2 hev g1 g2 g3 g4 g5 hv
        go_enter Try.func18, Try.ntmps18
        go_wp2_with (first
          | (go_at_call 15; (with_reducible refine HC.out.mono ?_); rintro e w1 ⟨rfl, hb1⟩; have hs1 := hb1.size)
          | (go_at_call 50; (with_reducible refine (HB.out _ (HA.out.below hb1) (HI.out.below hb1)).mono ?_); rintro e w2 ⟨rfl, hb2⟩; have hb3 := hb1.trans (hb2.mono hs1)))
        go_ret
        exact ⟨ret_str HR.out.symm, hb3⟩
      · have HR : Hid (atW l hol t = ByteArray.empty) := Lib.hid (by unfold atW; rw [if_neg (by have := of_decide_eq_true d2; omega)])
        clear hA hB hn hm hh hm' hev
        go_enter Try.func18, Try.ntmps18
        go_wp2_with (go_at_call 15; (with_reducible refine HC.out.mono ?_); rintro e w1 ⟨rfl, hb1⟩)
        go_ret
        exact ⟨ret_str HR.out.symm, hb1⟩
    · have HR : Hid (atW l hol t = ByteArray.empty) := Lib.hid (by unfold atW; rw [if_neg (by have := of_decide_eq_true d1; omega)])
      clear hA hB hn hm hh hm' hev
      go_enter Try.func18, Try.ntmps18
      go_wp2_with (go_at_call 15; (with_reducible refine HC.out.mono ?_); rintro e w1 ⟨rfl, hb1⟩)
      go_ret
      exact ⟨ret_str HR.out.symm, hb1⟩
  · have HR : Hid (atW l hol t = ByteArray.empty) := Lib.hid (by unfold atW; rw [if_neg (by rw [hev]; exact fun h => hz h.1)])
    have hzq : (ev == 0) = false := by simp [hz]
    clear hA hB hn hm hh hm' hev
    go_enter Try.func18, Try.ntmps18
    go_wp2_with (go_at_call 15; (with_reducible refine HC.out.mono ?_); rintro e w1 ⟨rfl, hb1⟩)
    go_ret
    exact ⟨ret_str HR.out.symm, hb1⟩
set_option maxHeartbeats 2000000 in
theorem refAt_any (A B : Option Addr) (n c m c' : Nat) (l : List Bd) (hol : List Int) (t : Int) (w : World) (hA : BdR w A l) (hn : l.length = n) (hc : n ≤ c) (hm : c ≤ maxLen) (hB : IR w B hol) (hh : hol.length = m) (hc' : m ≤ c') (hm' : c' ≤ maxLen) :
    Calls Try.prog 19 #[.slice A n c, .slice B m c', .int .i64 t] w fun e w' => e = .returned (.string (atW l hol t)) ∧ Below w.heap.size w w' := by
  obtain ⟨ev, hev⟩ : ∃ v, ckB l = v := ⟨_, rfl⟩
  have HC := Lib.hid (refCheck_is A n c l ev hev w hA hn hc hm)
  by_cases hz : ev = 0
  · subst hz
    cases d1 : decide (t < 0)
    · cases d2 : decide (12622780800 ≤ t)
      · have h1 := of_decide_eq_false d1
        have h2 := of_decide_eq_false d2
        obtain ⟨g1, g2, g3, g4, g5⟩ := ckB_0 hev
        obtain ⟨v, hv⟩ : ∃ v, atV l hol t = v := ⟨_, rfl⟩
        have HR : Hid (atW l hol t = v) := Lib.hid (by unfold atW; rw [if_pos ⟨hev, by omega, by omega⟩, hv])
        have HB := Lib.hid (fun W h1 h2 => refat_is A B n c m c' l hol t v hv W h1 hn hc hm h2 hh hc' hm' g5 g1 (by omega) (by omega))
        have HA := Lib.hid hA; have HI := Lib.hid hB
        clear hA hB hn hm hh hm' h1 h2 hev g1 g2 g3 g4 g5 hv
        go_enter Try.func19, Try.ntmps19
        go_wp2_with (first
          | (go_at_call 16; (with_reducible refine HC.out.mono ?_); rintro e w1 ⟨rfl, hb1⟩; have hs1 := hb1.size)
          | (go_at_call 51; (with_reducible refine (HB.out _ (HA.out.below hb1) (HI.out.below hb1)).mono ?_); rintro e w2 ⟨rfl, hb2⟩; have hb3 := hb1.trans (hb2.mono hs1)))
        go_ret
        exact ⟨ret_str HR.out.symm, hb3⟩
      · have HR : Hid (atW l hol t = ByteArray.empty) := Lib.hid (by unfold atW; rw [if_neg (by have := of_decide_eq_true d2; omega)])
        clear hA hB hn hm hh hm' hev
        go_enter Try.func19, Try.ntmps19
        go_wp2_with (go_at_call 16; (with_reducible refine HC.out.mono ?_); rintro e w1 ⟨rfl, hb1⟩)
        go_ret
        exact ⟨ret_str HR.out.symm, hb1⟩
    · have HR : Hid (atW l hol t = ByteArray.empty) := Lib.hid (by unfold atW; rw [if_neg (by have := of_decide_eq_true d1; omega)])
      clear hA hB hn hm hh hm' hev
      go_enter Try.func19, Try.ntmps19
      go_wp2_with (go_at_call 16; (with_reducible refine HC.out.mono ?_); rintro e w1 ⟨rfl, hb1⟩)
      go_ret
      exact ⟨ret_str HR.out.symm, hb1⟩
  · have HR : Hid (atW l hol t = ByteArray.empty) := Lib.hid (by unfold atW; rw [if_neg (by rw [hev]; exact fun h => hz h.1)])
    have hzq : (ev == 0) = false := by simp [hz]
    clear hA hB hn hm hh hm' hev
    go_enter Try.func19, Try.ntmps19
    go_wp2_with (go_at_call 16; (with_reducible refine HC.out.mono ?_); rintro e w1 ⟨rfl, hb1⟩)
    go_ret
    exact ⟨ret_str HR.out.symm, hb1⟩
end Go.Proofs.Ytpbohnlfiaigjaa
