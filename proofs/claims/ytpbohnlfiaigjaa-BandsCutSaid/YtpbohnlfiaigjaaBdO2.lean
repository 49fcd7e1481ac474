/- Walk: the band of an instant, in the program. -/
import Derived.Test.YtpbohnlfiaigjaaBdO
namespace Go.Proofs.Ytpbohnlfiaigjaa
open Go.RowKit

theorem ret_str {a b : ByteArray} (h : a = b) : Ending.returned (.string a) = .returned (.string b) := by rw [h]
theorem wrap_pow {k : Nat} (h : k < 7) : wrap64 ((2 : Int) ^ k) = ((2 ^ k : Nat) : Int) := by
  have : ∀ k : Fin 7, wrap64 ((2 : Int) ^ k.val) = ((2 ^ k.val : Nat) : Int) := by decide +kernel
  exact this ⟨k, h⟩
theorem Clo.mk' {w1 : World} {g : Nat} {mi : Int} (h : Blk w1 g 3 #[.int .i64 mi]) (hv : Bool) (pw : Int) :
    Clo ((w1.alloc (.cells #[.bool hv] 4)).alloc (.cells #[.int .i64 pw] 3)) (w1.heap.size + 1) w1.heap.size g pw hv mi :=
  ⟨by have := Blk.new (w1.alloc (.cells #[.bool hv] 4)) 3 #[.int .i64 pw]; simpa using this, (Blk.new w1 _ _).alloc _, (h.alloc _).alloc _⟩
theorem atB_hit {l : List Bd} {bit : Nat} {m : Int} {k : Nat} {x : ByteArray} {ss : List Sl} (hk : k < l.length) (hp : l.getD k bd0 = (x, ss)) (h : ∀ j, j < k → (l.getD j bd0).2.any (inS bit m) = false) (h2 : ss.any (inS bit m) = true) : atB bit m l = x := by
  unfold atB
  have : l.find? (fun b => b.2.any (inS bit m)) = some (x, ss) := by
    rw [List.find?_eq_some_iff_getElem]
    refine ⟨h2, k, hk, by simpa [List.getD, List.getElem?_eq_getElem hk] using hp, fun j hj => ?_⟩
    have := h j hj
    simp only [List.getD, List.getElem?_eq_getElem (show j < l.length by omega), Option.getD_some] at this
    simp only [this, Bool.not_false]
  rw [this]
theorem atB_end {l : List Bd} {bit : Nat} {m : Int} {n : Nat} {x : ByteArray} {ss : List Sl} (hne : l ≠ []) (hn : l.length = n) (hp : l.getD (n - 1) bd0 = (x, ss)) (h : ∀ j, j < n → (l.getD j bd0).2.any (inS bit m) = false) : atB bit m l = x := by
  unfold atB
  have : l.find? (fun b => b.2.any (inS bit m)) = none := by
    rw [List.find?_eq_none]
    intro b hb
    obtain ⟨j, hj, rfl⟩ := List.mem_iff_getElem.1 hb
    have := h j (by omega)
    simp only [List.getD, List.getElem?_eq_getElem hj, Option.getD_some] at this
    simp [this]
  rw [this]
  have h0 : 0 < l.length := List.length_pos_iff.2 hne
  rw [← hn] at hp
  rw [List.getLastD_eq_getLast?, List.getLast?_eq_getElem?]
  simp only [List.getD, List.getElem?_eq_getElem (show l.length - 1 < l.length by omega), Option.getD_some] at hp ⊢
  rw [hp]
set_option maxHeartbeats 4000000 in
theorem bandOf_any (A B : Option Addr) (n c m c' : Nat) (l : List Bd) (hol : List Int) (t : Int) (w : World) (hA : BdR w A l) (hn : l.length = n) (hc : n ≤ c) (hm : c ≤ maxLen) (hB : IR w B hol) (hh : hol.length = m) (hc' : m ≤ c') (hm' : c' ≤ maxLen)
    (hok : ∀ b ∈ l, ∀ s ∈ b.2, okS s = true) (hne : l ≠ []) (ht : 0 ≤ t) (ht2 : t < 12622780800) :
    Calls Try.prog 50 #[.slice A n c, .slice B m c', .int .i64 t] w fun e w' => e = .returned (.string (atV l hol t)) ∧ Below w.heap.size w w' := by
  obtain ⟨day, hday⟩ : ∃ d, t / 86400 = d := ⟨_, rfl⟩
  obtain ⟨mi, hmi⟩ : ∃ d, t % 86400 / 60 = d := ⟨_, rfl⟩
  obtain ⟨wd, hwd⟩ : ∃ d : Nat, (day + 5) % 7 = (d : Int) := ⟨((day + 5) % 7).toNat, by omega⟩
  have hw7 : wd < 7 := by omega
  have HW : Hid (∀ W, Calls Try.prog 75 #[.int .i64 day] W fun e w' => e = .returned (.int .i64 wd) ∧ W = w') := Lib.hid (fun W => by rw [← hwd]; exact weekdayN day W (by omega) (by omega))
  obtain ⟨hv, hhv⟩ : ∃ v, hol.contains day = v := ⟨_, rfl⟩
  have HH := Lib.hid (fun W h => containsI_is B m c' hol day W h hh hc' hm' hv hhv)
  have HV : Hid (atV l hol t = atB (if hv then 7 else wd) mi l) := Lib.hid (by unfold atV bitOf; rw [hday, hmi, hhv, hwd]; simp)
  have HA := Lib.hid hA; have HB := Lib.hid hB; have HN := Lib.hid hn; have HM := Lib.hid hm
  have hg1 := Blk.new w 3 #[.int .i64 mi]
  have hb0 : Below w.heap.size w (w.alloc (.cells #[.int .i64 mi] 3)) := (Below.refl _ w).alloc (Nat.le_refl _) _
  have HB0 := Lib.hid hb0; have HG1 := Lib.hid hg1
  clear hA hB hhv hwd hn hh hm hg1 hb0
  unfold maxLen at hm'
  go_enter Try.func50, Try.ntmps50
  go_wp2_with fail
  refine (HH.out _ (HB.out.below HB0.out)).mono ?_
  rintro e w1 ⟨rfl, hb1⟩
  have hw1 := HB0.out.trans (hb1.mono HB0.out.size)
  have hg2 := HG1.out.below hb1 HG1.out.lt
  have hwr := wrap_pow hw7
  obtain ⟨pw, hpw⟩ : ∃ p : Int, ((2 ^ wd : Nat) : Int) = p := ⟨_, rfl⟩
  rw [hpw] at hwr
  have hC := Clo.mk' hg2 hv pw
  have hw2 := (hw1.alloc hw1.size (.cells #[.bool hv] 4)).alloc (Nat.le_trans hw1.size (by simp)) (.cells #[.int .i64 pw] 3)
  go_wp2_with (go_at_call 75; (with_reducible refine (HW.out _).mono ?_); rintro e w2 ⟨rfl, rfl⟩)
  obtain ⟨W2, hW2⟩ : ∃ W, (w1.alloc (.cells #[.bool hv] 4)).alloc (.cells #[.int .i64 pw] 3) = W := ⟨_, rfl⟩
  obtain ⟨g1, hq1⟩ : ∃ g, w1.heap.size + 1 = g := ⟨_, rfl⟩
  obtain ⟨g2, hq2⟩ : ∃ g, w1.heap.size = g := ⟨_, rfl⟩
  obtain ⟨g3, hq3⟩ : ∃ g, w.heap.size = g := ⟨_, rfl⟩
  rw [hW2, hq1, hq2, hq3] at hC
  rw [hW2] at hw2
  rw [hW2, hq1, hq2, hq3]
  rw [← hpw] at hC
  have HC := Lib.hid hC
  have HW2 := Lib.hid hw2
  have HBit : Hid (∃ bit, bit = if hv then 7 else wd) := Lib.hid ⟨_, rfl⟩
  obtain ⟨bit, hbit⟩ := HBit.out
  have HBt := Lib.hid hbit
  rw [← hbit] at HV
  have HOK := Lib.hid hok; have HNE := Lib.hid hne; have HW7 := Lib.hid (show wd < 8 by omega)
  have hmx := HM.out
  unfold maxLen at hmx
  have hn0 : 0 < n := by rw [← HN.out]; exact List.length_pos_iff.2 hne
  clear hC hw2 hW2 hq1 hq2 hq3 hwr hpw hw7 hw1 hb1 hg2 HH HW hbit HB0 HG1 HBit hok hne hday hmi ht ht2
  go_loopw [28] (fun iv wr => ∃ k : Nat, iv = .int .i64 k ∧ k ≤ n ∧ Below W2.heap.size W2 wr ∧ Hid (∀ j, j < k → (l.getD j bd0).2.any (inS bit mi) = false)) (fun iv _ => n - (intOf iv).toNat)
  case atStart => exact ⟨0, rfl, by omega, Below.refl _ _, Lib.hid fun j h => absurd h (Nat.not_lt_zero j)⟩
  case round =>
    obtain ⟨k, rfl, hk, hb, HO⟩ := hrel
    have hs := hb.size
    have hbw : Below w.heap.size w wr := HW2.out.trans (hb.mono HW2.out.size)
    by_cases hlt : k < n
    · obtain ⟨bk, off, S, c2, rfl, hbl, q0, q1, q2, q3, q4, _⟩ := HA.out k (by rw [HN.out]; omega)
      have e0 := (hbw.cell (p := ⟨bk, off + k * 2, none⟩) hbl).trans q0
      have e1 := (hbw.cell (p := ⟨bk, off + k * 2 + 1, none⟩) hbl).trans q1
      have hlt' : (k : Int) < (n : Int) := by omega
      obtain ⟨⟨x, ss⟩, hp⟩ : ∃ p, l.getD k bd0 = p := ⟨_, rfl⟩
      rw [hp] at e0 e1 q2 q4
      simp only at e0 e1 q2 q4
      obtain ⟨L, hL⟩ : ∃ L, ss.length = L := ⟨_, rfl⟩
      rw [hL] at e1 q2
      have hmem : (x, ss) ∈ l := by rw [← hp]; simp [List.getD, List.getElem?_eq_getElem (show k < l.length by rw [HN.out]; exact hlt)]
      have hBn := Blk.new wr 25 #[.string x, .slice S L c2]
      have hbn : Below W2.heap.size W2 (wr.alloc (.cells #[.string x, .slice S L c2] 25)) := hb.alloc hs _
      have c1 := hBn.cell 1
      have HBn := Lib.hid hBn
      have HS := Lib.hid (fun v h => containsS_is S L c2 ss mi bit wd hv g1 g2 g3 _ (q4.below (HW2.out.trans (hbn.mono HW2.out.size))) hL q2 q3 (HOK.out _ hmem) HW7.out HBt.out (HC.out.below hbn) v h)
      have hsn := hbn.size
      clear q0 q1 q2 q3 q4 hmem hBn hL
      cases hi : ss.any (inS bit mi)
      · have HS1 := Lib.hid (HS.out _ hi)
        have HO2 : Hid (∀ j, j < k + 1 → (l.getD j bd0).2.any (inS bit mi) = false) := Lib.hid fun j h => by
          rcases Nat.lt_or_ge j k with h | h
          · exact HO.out j h
          · obtain rfl : j = k := by omega
            rw [hp]; exact hi
        clear hp hi HO HS
        go_wp2_with (go_at_call 77; (with_reducible refine HS1.out.mono ?_); rintro e w3 ⟨rfl, hb3⟩; have hb4 := hbn.trans (hb3.mono hsn))
        go_roundw
        case rel => exact ⟨k + 1, by go_num, by omega, hb4, HO2⟩
        case measure => simp [intOf]; omega
      · have HS1 := Lib.hid (HS.out _ hi)
        have HR : Hid (atB bit mi l = x) := Lib.hid (atB_hit (show k < l.length by rw [HN.out]; exact hlt) hp HO.out hi)
        clear hp hi HO HS
        go_wp2_with (go_at_call 77; (with_reducible refine HS1.out.mono ?_); rintro e w3 ⟨rfl, hb3⟩; have hb4 := hbn.trans (hb3.mono hsn); have c2' := (HBn.out.below hb3 HBn.out.lt).cell 0)
        go_ret
        exact ⟨ret_str (HV.out.trans HR.out).symm, HW2.out.trans (hb4.mono HW2.out.size)⟩
    · obtain rfl : k = n := by omega
      obtain ⟨bk, off, S, c2, rfl, hbl, q0, _⟩ := HA.out (k - 1) (by rw [HN.out]; omega)
      have e0 := (hbw.cell (p := ⟨bk, off + (k - 1) * 2, none⟩) hbl).trans q0
      obtain ⟨⟨x, ss⟩, hp⟩ : ∃ p, l.getD (k - 1) bd0 = p := ⟨_, rfl⟩
      rw [hp] at e0
      simp only at e0
      have HR : Hid (atB bit mi l = x) := Lib.hid (atB_end HNE.out HN.out hp HO.out)
      have e2 : ((k : Int) - 1).toNat = k - 1 := by omega
      clear hp q0 HO
      go_wp2_with fail
      go_ret
      exact ⟨ret_str (HV.out.trans HR.out).symm, hbw⟩
end Go.Proofs.Ytpbohnlfiaigjaa
