/- Walks: a list of bands is checked by the program. -/
import Derived.Test.YtpkmnefbofhjbaaGreatBdV
namespace Go.Proofs.YtpkmnefbofhjbaaGreat
open Go.RowKit

theorem sEq (x y : ByteArray) : (x.toList == y.toList) = decide (x = y) := by
  rw [ByteArray.toList_eq, ByteArray.toList_eq]
  by_cases h : x = y
  · subst h; simp
  · rw [decide_eq_false h]
    obtain ⟨⟨x⟩⟩ := x
    obtain ⟨⟨y⟩⟩ := y
    simp at h ⊢
    exact h
theorem sEq_is {x y : ByteArray} {v : Bool} (h : decide (x = y) = v) : (x.toList == y.toList) = v := by rw [sEq, h]
theorem clB_any (x y : ByteArray) (S S' : Value) (g : Nat) (W : World) (hB : Blk W g 60 #[.string y, S']) :
    Calls Tryz.prog 73 #[.agg #[.string x, S], .pointer (some ⟨g, 0, none⟩)] W fun e w' => e = .returned (.bool (decide (x = y))) ∧ Below W.heap.size W w' := by
  have h1 := (hB.alloc (.cells #[.string x, S] 60)).cell 0
  have h2 := Blk.new W 60 #[.string x, S]
  go_enter Tryz.func73, Tryz.ntmps73
  go_wp2
  go_ret
  exact ⟨ret_bool (sEq _ _), (Below.refl _ _).alloc (Nat.le_refl _) _⟩
theorem clB_is (x y : ByteArray) (v : Bool) (hv : decide (x = y) = v) (S S' : Value) (g : Nat) (W : World) (hB : Blk W g 60 #[.string y, S']) :
    Calls Tryz.prog 73 #[.agg #[.string x, S], .pointer (some ⟨g, 0, none⟩)] W fun e w' => e = .returned (.bool v) ∧ Below W.heap.size W w' := by
  subst hv; exact clB_any x y S S' g W hB
theorem any_take {l : List Bd} {m : Nat} {p : Bd → Bool} (h : ∀ j, j < m → p (l.getD j bd0) = false) (hm : m ≤ l.length) : (l.take m).any p = false := by
  rw [List.any_eq_false]
  intro x hx
  obtain ⟨j, hj, rfl⟩ := List.mem_iff_getElem.1 hx
  rw [List.length_take] at hj
  have := h j (by omega)
  simpa [List.getD, List.getElem?_eq_getElem (show j < l.length by omega)] using this
theorem any_take_yes {l : List Bd} {m k : Nat} {p : Bd → Bool} (hk : k < m) (hm : m ≤ l.length) (h : p (l.getD k bd0) = true) : (l.take m).any p = true := by
  rw [List.any_eq_true]
  refine ⟨l.getD k bd0, ?_, h⟩
  rw [List.mem_take_iff_getElem]
  exact ⟨k, by omega, by simp [List.getD, List.getElem?_eq_getElem (show k < l.length by omega)]⟩
set_option maxHeartbeats 4000000 in
theorem indexB_any (A : Option Addr) (n m c : Nat) (l : List Bd) (y : ByteArray) (S' : Value) (g : Nat) (w : World) (hA : BdR w A l) (hn : l.length = n) (hmn : m ≤ n) (hc : n ≤ c) (hm : c ≤ maxLen) (hB : Blk w g 60 #[.string y, S']) :
    Calls Tryz.prog 101 #[.slice A m c, .func (.func 73) #[] #[.pointer (some ⟨g, 0, none⟩)]] w fun e w' => (∃ v : Int, e = .returned (.int .i64 v) ∧ decide (0 ≤ v) = (l.take m).any (fun e => decide (e.1 = y))) ∧ Below w.heap.size w w' := by
  unfold maxLen at hm
  have HA := Lib.hid hA; have HN := Lib.hid hn; have HB := Lib.hid hB
  clear hA hn hB
  go_enter Tryz.func101, Tryz.ntmps101
  go_wp2_with fail
  go_loopw [8] (fun iv wr => ∃ k : Nat, iv = .int .i64 k ∧ k ≤ m ∧ Below w.heap.size w wr ∧ Hid (∀ j, j < k → decide ((l.getD j bd0).1 = y) = false)) (fun iv _ => m - (intOf iv).toNat)
  case atStart => exact ⟨0, rfl, by omega, Below.refl _ _, Lib.hid fun j h => absurd h (Nat.not_lt_zero j)⟩
  case round =>
    obtain ⟨k, rfl, hk, hb, HO⟩ := hrel
    have hs := hb.size
    by_cases hlt : k < m
    · obtain ⟨bk, off, S, c2, rfl, hbl, g0, g1, _⟩ := HA.out k (by rw [HN.out]; omega)
      have e0 := (hb.cell (p := ⟨bk, off + k * 2, none⟩) hbl).trans g0
      have e1 := (hb.cell (p := ⟨bk, off + k * 2 + 1, none⟩) hbl).trans g1
      have hlt' : (k : Int) < (m : Int) := by omega
      obtain ⟨⟨x, ss⟩, hp⟩ : ∃ p, l.getD k bd0 = p := ⟨_, rfl⟩
      rw [hp] at e0 e1
      simp only at e0 e1
      clear g0 g1
      cases hv : decide (x = y)
      · have HC := Lib.hid (clB_is x y _ hv (.slice S ss.length c2) S' g wr (HB.out.below hb HB.out.lt))
        have HO2 : Hid (∀ j, j < k + 1 → decide ((l.getD j bd0).1 = y) = false) := Lib.hid fun j h => by
          rcases Nat.lt_or_ge j k with h | h
          · exact HO.out j h
          · obtain rfl : j = k := by omega
            rw [hp]; exact hv
        clear hp hv HO
        go_wp2_with (go_at_call 73; (with_reducible refine HC.out.mono ?_); rintro e w1 ⟨rfl, hb1⟩; have hb2 := hb.trans (hb1.mono hs))
        go_roundw
        case rel => exact ⟨k + 1, by go_num, by omega, hb2, HO2⟩
        case measure => simp [intOf]; omega
      · have HC := Lib.hid (clB_is x y _ hv (.slice S ss.length c2) S' g wr (HB.out.below hb HB.out.lt))
        have HR := Lib.hid (any_take_yes (p := fun e => decide (e.1 = y)) hlt (by rw [HN.out]; exact hmn) (by rw [hp]; exact hv))
        clear hp hv HO
        go_wp2_with (go_at_call 73; (with_reducible refine HC.out.mono ?_); rintro e w1 ⟨rfl, hb1⟩; have hb2 := hb.trans (hb1.mono hs))
        go_ret
        exact ⟨⟨k, rfl, by rw [HR.out]; exact decide_eq_true (by omega)⟩, hb2⟩
    · obtain rfl : k = m := by omega
      have HR := Lib.hid (any_take (p := fun e => decide (e.1 = y)) (fun j hj => HO.out j hj) (by rw [HN.out]; exact hmn))
      clear HO
      go_wp2_with fail
      go_ret
      exact ⟨⟨-1, rfl, by rw [HR.out]; rfl⟩, hb⟩
set_option maxHeartbeats 1000000 in
theorem containsB_is (A : Option Addr) (n m c : Nat) (l : List Bd) (y : ByteArray) (S' : Value) (g : Nat) (w : World) (hA : BdR w A l) (hn : l.length = n) (hmn : m ≤ n) (hc : n ≤ c) (hm : c ≤ maxLen) (hB : Blk w g 60 #[.string y, S'])
    (v : Bool) (hv : (l.take m).any (fun e => decide (e.1 = y)) = v) :
    Calls Tryz.prog 72 #[.slice A m c, .func (.func 73) #[] #[.pointer (some ⟨g, 0, none⟩)]] w fun e w' => e = .returned (.bool v) ∧ Below w.heap.size w w' := by
  have H := Lib.hid (indexB_any A n m c l y S' g w hA hn hmn hc hm hB)
  rw [hv] at H
  clear hA hn hB hv
  go_enter Tryz.func72, Tryz.ntmps72
  go_wp2_with (go_at_call 101; (with_reducible refine H.out.mono ?_); rintro e w1 ⟨⟨v1, rfl, hv1⟩, hb⟩)
  go_ret
  exact ⟨rfl, hb⟩
/-- The parts of the error of a band. -/
theorem ckAt_nm {l : List Bd} {k : Nat} {x : ByteArray} {ss : List Sl} (hp : l.getD k bd0 = (x, ss)) (h : nmOk x = false) : ckAt l k = 8 := by
  unfold ckAt; rw [show l.getD k (ByteArray.empty, []) = (x, ss) from hp]; rw [if_pos h]
theorem ckAt_ex {l : List Bd} {k : Nat} {x : ByteArray} {ss : List Sl} (hp : l.getD k bd0 = (x, ss)) (h : nmOk x = true) (h2 : (l.take k).any (fun e => decide (e.1 = x)) = true) : ckAt l k = 10 := by
  unfold ckAt; rw [show l.getD k (ByteArray.empty, []) = (x, ss) from hp]; rw [if_neg (by rw [h]; simp), if_pos h2]
theorem ckAt_sl {l : List Bd} {k : Nat} {x : ByteArray} {ss : List Sl} (hp : l.getD k bd0 = (x, ss)) (h : nmOk x = true) (h2 : (l.take k).any (fun e => decide (e.1 = x)) = false) : ckAt l k = ckS ss (decide (k + 1 = l.length)) := by
  unfold ckAt; rw [show l.getD k (ByteArray.empty, []) = (x, ss) from hp]; rw [if_neg (by rw [h]; simp), if_neg (by rw [h2]; simp)]
theorem ckB_few {l : List Bd} (h0 : l.length ≠ 0) (h1 : l.length ≤ 64) : ckB l = fst0 (ckAt l) l.length := by unfold ckB; rw [if_neg h0, if_neg (by omega)]
theorem nameValid_is (s : ByteArray) (v : Bool) (h : nmOk s = v) (w : World) (hs : s.size ≤ maxLen) : Calls Tryz.prog 30 #[.string s] w fun e w' => e = .returned (.bool v) ∧ Below w.heap.size w w' := by
  subst h; exact nameValid_any s w hs
theorem refName_is (s : ByteArray) (v : Bool) (h : nmOk s = v) (w : World) (hs : s.size ≤ maxLen) : Calls Tryz.prog 87 #[.string s] w fun e w' => e = .returned (.bool v) ∧ Below w.heap.size w w' := by
  subst h; exact refName_any s w hs
theorem checkSlots_is (A : Option Addr) (n c : Nat) (l : List Sl) (last : Bool) (v : Int) (h : ckS l last = v) (w : World) (hA : SlR w A l) (hn : l.length = n) (hc : n ≤ c) (hm : c ≤ maxLen) :
    Calls Tryz.prog 74 #[.slice A n c, .bool last] w fun e w' => e = .returned (.int .i64 v) ∧ Below w.heap.size w w' := by
  subst h; exact checkSlots_any A n c l last w hA hn hc hm
set_option maxHeartbeats 8000000 in
theorem check_any (A : Option Addr) (n c : Nat) (l : List Bd) (w : World) (hA : BdR w A l) (hn : l.length = n) (hc : n ≤ c) (hm : c ≤ maxLen) :
    Calls Tryz.prog 33 #[.slice A n c] w fun e w' => e = .returned (.int .i64 (ckB l)) ∧ Below w.heap.size w w' := by
  have hmm := hm
  unfold maxLen at hm
  by_cases h0 : n = 0
  · subst h0
    obtain rfl : l = [] := by simpa using hn
    clear hA hn
    go_enter Tryz.func33, Tryz.ntmps33
    go_wp2
    go_ret
    exact ⟨rfl, Below.refl _ _⟩
  · have d0 : ((n : Int) == 0) = false := by simp [h0]
    by_cases h64 : 64 < n
    · have d1 : decide (64 < (n : Int)) = true := decide_eq_true (by omega)
      rw [show ckB l = 5 by unfold ckB; rw [if_neg (by omega), if_pos (by omega)]]
      clear hA hn h64
      go_enter Tryz.func33, Tryz.ntmps33
      go_wp2
      go_ret
      exact ⟨rfl, Below.refl _ _⟩
    · have d1 : decide (64 < (n : Int)) = false := decide_eq_false (by omega)
      have HV := Lib.hid (ckB_few (l := l) (by omega) (by omega))
      have HA := Lib.hid hA; have HN := Lib.hid hn; have HM := Lib.hid hmm
      clear hA hn hmm
      go_enter Tryz.func33, Tryz.ntmps33
      go_wp2_with fail
      clear d0 d1
      go_loopw [14] (fun iv wr => ∃ k : Nat, iv = .int .i64 k ∧ k ≤ n ∧ Below w.heap.size w wr ∧ Hid (fst0 (ckAt l) k = 0)) (fun iv _ => n - (intOf iv).toNat)
      case atStart => exact ⟨0, rfl, by omega, Below.refl _ _, Lib.hid rfl⟩
      case round =>
        obtain ⟨k, rfl, hk, hb, HO⟩ := hrel
        have hs := hb.size
        by_cases hlt : k < n
        · obtain ⟨bk, off, S, c2, rfl, hbl, g0, g1, g2, g3, g4, g5⟩ := HA.out k (by rw [HN.out]; omega)
          have e0 := (hb.cell (p := ⟨bk, off + k * 2, none⟩) hbl).trans g0
          have e1 := (hb.cell (p := ⟨bk, off + k * 2 + 1, none⟩) hbl).trans g1
          have hlt' : (k : Int) < (n : Int) := by omega
          obtain ⟨⟨x, ss⟩, hp⟩ : ∃ p, l.getD k bd0 = p := ⟨_, rfl⟩
          rw [hp] at e0 e1 g2 g4 g5
          simp only at e0 e1 g2 g4 g5
          have HP := Lib.hid hp
          obtain ⟨L, hL⟩ : ∃ L, ss.length = L := ⟨_, rfl⟩
          rw [hL] at e1 g2
          have HL := Lib.hid hL
          have HG := Lib.hid (show L ≤ c2 ∧ c2 ≤ maxLen ∧ SlR w S ss ∧ x.size ≤ maxLen from ⟨g2, g3, g4, g5⟩)
          have hBn := Blk.new wr 60 #[.string x, .slice S L c2]
          have hbn : Below w.heap.size w (wr.alloc (.cells #[.string x, .slice S L c2] 60)) := hb.alloc hs _
          have c0 := hBn.cell 0
          have hsn := hbn.size
          have HBn := Lib.hid hBn
          clear g0 g1 g2 g3 g4 g5 hp hBn hL
          cases hv : nmOk x
          · have HN1 := Lib.hid (fun W => nameValid_is x _ hv W HG.out.2.2.2)
            have HR := Lib.hid (HV.out.trans (fst0_hit (n := l.length) HO.out (ckAt_nm HP.out hv) (by decide) (by rw [HN.out]; exact hlt)))
            clear hv HO
            go_wp2_with (go_at_call 30; (with_reducible refine (HN1.out _).mono ?_); rintro e w1 ⟨rfl, hb1⟩; have hb2 := hbn.trans (hb1.mono hsn))
            go_ret
            exact ⟨ret_i64 HR.out.symm, hb2⟩
          · have HN1 := Lib.hid (fun W => nameValid_is x _ hv W HG.out.2.2.2)
            cases hx : (l.take k).any (fun e => decide (e.1 = x))
            · have HC1 := Lib.hid (fun W h1 h2 => containsB_is (some ⟨bk, off, none⟩) n k c l x (.slice S L c2) wr.heap.size W h1 HN.out (by omega) hc HM.out h2 false hx)
              have HK := Lib.hid (ckAt_sl HP.out hv hx)
              have hq : ((k : Int) == (n : Int) - 1) = decide (k + 1 = l.length) := by rw [HN.out]; by_cases h : k + 1 = n <;> simp [h] <;> omega
              obtain ⟨last, hla⟩ : ∃ b, decide (k + 1 = l.length) = b := ⟨_, rfl⟩
              rw [hla] at hq HK
              obtain ⟨ev, hev⟩ : ∃ ev, ckS ss last = ev := ⟨_, rfl⟩
              have HS1 := Lib.hid (fun W h1 => checkSlots_is S L c2 ss last ev hev W h1 HL.out HG.out.1 HG.out.2.1)
              rw [hev] at HK
              clear hla hev hv hx
              by_cases hz : ev = 0
              · subst hz
                have HO2 := Lib.hid (fst0_next HO.out HK.out)
                clear HO HK
                go_wp2_with (first
                  | (go_at_call 30; (with_reducible refine (HN1.out _).mono ?_); rintro e w1 ⟨rfl, hb1⟩; have hb2 := hbn.trans (hb1.mono hsn); have hB1 := HBn.out.below hb1 HBn.out.lt; have hs2 := hb2.size; clear hb1)
                  | (go_at_call 72; (with_reducible refine (HC1.out _ (HA.out.below hb2) hB1).mono ?_); rintro e w2 ⟨rfl, hb3⟩; have hb4 := hb2.trans (hb3.mono hs2); have c1 := (hB1.below hb3 hB1.lt).cell 1; have hs4 := hb4.size; clear hb3)
                  | (go_at_call 74; (with_reducible refine (HS1.out _ (HG.out.2.2.1.below hb4)).mono ?_); rintro e w3 ⟨rfl, hb5⟩; have hb6 := hb4.trans (hb5.mono hs4); clear hb5))
                go_roundw
                case rel => exact ⟨k + 1, by go_num, by omega, hb6, HO2⟩
                case measure => simp [intOf]; omega
              · have HR := Lib.hid (HV.out.trans (fst0_hit (n := l.length) HO.out HK.out hz (by rw [HN.out]; exact hlt)))
                have hzq : (ev == 0) = false := by simp [hz]
                clear HO HK hz
                go_wp2_with (first
                  | (go_at_call 30; (with_reducible refine (HN1.out _).mono ?_); rintro e w1 ⟨rfl, hb1⟩; have hb2 := hbn.trans (hb1.mono hsn); have hB1 := HBn.out.below hb1 HBn.out.lt; have hs2 := hb2.size; clear hb1)
                  | (go_at_call 72; (with_reducible refine (HC1.out _ (HA.out.below hb2) hB1).mono ?_); rintro e w2 ⟨rfl, hb3⟩; have hb4 := hb2.trans (hb3.mono hs2); have c1 := (hB1.below hb3 hB1.lt).cell 1; have hs4 := hb4.size; clear hb3)
                  | (go_at_call 74; (with_reducible refine (HS1.out _ (HG.out.2.2.1.below hb4)).mono ?_); rintro e w3 ⟨rfl, hb5⟩; have hb6 := hb4.trans (hb5.mono hs4); clear hb5))
                go_ret
                exact ⟨ret_i64 HR.out.symm, hb6⟩
            · have HC1 := Lib.hid (fun W h1 h2 => containsB_is (some ⟨bk, off, none⟩) n k c l x (.slice S L c2) wr.heap.size W h1 HN.out (by omega) hc HM.out h2 true hx)
              have HR := Lib.hid (HV.out.trans (fst0_hit (n := l.length) HO.out (ckAt_ex HP.out hv hx) (by decide) (by rw [HN.out]; exact hlt)))
              clear hv hx HO
              go_wp2_with (first
                | (go_at_call 30; (with_reducible refine (HN1.out _).mono ?_); rintro e w1 ⟨rfl, hb1⟩; have hb2 := hbn.trans (hb1.mono hsn); have hB1 := HBn.out.below hb1 HBn.out.lt; have hs2 := hb2.size; clear hb1)
                | (go_at_call 72; (with_reducible refine (HC1.out _ (HA.out.below hb2) hB1).mono ?_); rintro e w2 ⟨rfl, hb3⟩; have hb4 := hb2.trans (hb3.mono hs2); clear hb3))
              go_ret
              exact ⟨ret_i64 HR.out.symm, hb4⟩
        · obtain rfl : k = n := by omega
          have HR : Hid (ckB l = 0) := Lib.hid (by rw [HV.out, HN.out]; exact HO.out)
          clear HO
          go_wp2_with fail
          go_ret
          exact ⟨ret_i64 HR.out.symm, hb⟩
end Go.Proofs.YtpkmnefbofhjbaaGreat
