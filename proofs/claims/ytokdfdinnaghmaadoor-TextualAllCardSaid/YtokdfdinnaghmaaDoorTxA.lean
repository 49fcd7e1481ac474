/- Walks: the reader's number. -/
import Derived.Test.YtokdfdinnaghmaaDoorTxR
import Derived.Test.YtokdfdinnaghmaaDoorShelf
namespace Go.Proofs.YtokdfdinnaghmaaDoor.Tx
open Go Go.Lib Go.RowKit

theorem dec_from : ∀ (l : List UInt8) (a : Nat), l.all dgB = true → decFrom a l = some (l.foldl (fun n x => n * 10 + (x.toNat - 48)) a)
  | [], a, _ => by simp [decFrom]
  | b :: l, a, h => by
    rw [List.all_cons, Bool.and_eq_true] at h
    have hb := h.1
    unfold dgB at hb
    rw [Bool.and_eq_true, decide_eq_true_eq, decide_eq_true_eq] at hb
    have hd : digitVal b = some (b.toNat - 48) := by unfold digitVal; rw [if_pos hb]
    simp only [decFrom, hd, List.foldl_cons]
    exact dec_from l _ h.2
theorem atoi_num {l : List UInt8} (h : numW l = true) : atoi l = some (valW l : Int) := by
  unfold numW at h
  rw [Bool.and_eq_true, Bool.and_eq_true, Bool.and_eq_true] at h
  obtain ⟨⟨⟨h1, -⟩, -⟩, h4⟩ := h
  cases l with
  | nil => simp at h1
  | cons b l =>
    have hb := h4
    rw [List.all_cons, Bool.and_eq_true] at hb
    have hb1 := hb.1
    unfold dgB at hb1
    rw [Bool.and_eq_true, decide_eq_true_eq, decide_eq_true_eq] at hb1
    have n45 : (b == 45) = false := by
      rw [beq_eq_false_iff_ne]; intro e; rw [e] at hb1; exact absurd hb1.1 (by decide)
    have n43 : (b == 43) = false := by
      rw [beq_eq_false_iff_ne]; intro e; rw [e] at hb1; exact absurd hb1.1 (by decide)
    simp only [atoi, n45, n43, decNat]
    rw [show (b :: l).isEmpty = false from rfl]
    simp only [Bool.false_eq_true, if_false]
    rw [dec_from _ 0 h4]
    rfl
theorem num_len {s : ByteArray} (h : numW s.data.toList = true) : s.size ≤ 15 := by
  unfold numW at h
  rw [Bool.and_eq_true, Bool.and_eq_true, Bool.and_eq_true] at h
  have := of_decide_eq_true h.1.1.2
  simpa using this
def NumOut (w : World) (g : Nat) (s : RS) (e : Ending) (w' : World) : Prop := e = .returned (.int .i64 ((rdNum s).1 : Int)) ∧ RdOut w w' g (rdNum s).2
theorem TxA.wrong {w : World} {g : Nat} {s : RS} (h : TxA w g s) : TxA (w.setCell ⟨g, 1, none⟩ (.bool true)) g { s with wrong := true } := by
  obtain ⟨p, n, c, l, h, e⟩ := h
  exact ⟨p, n, c, l, h.setF true, e⟩
theorem TxA.cells {w : World} {g : Nat} {s : RS} (h : TxA w g s) : w.cell? ⟨g, 1, none⟩ = some (.bool s.wrong) ∧ w.frozen? ⟨g, 1, none⟩ = false := by
  obtain ⟨p, n, c, l, h, e⟩ := h
  exact ⟨h.cells.2.1, h.cells.2.2.2⟩
theorem isNum_is {s : ByteArray} {b : Bool} (hb : numW s.data.toList = b) (w : World) (hs : s.size ≤ maxLen) : Calls Tryd.prog 49 #[.string s] w fun e w' => e = .returned (.bool b) ∧ Below w.heap.size w w' := by
  subst hb; exact isNumber_any s w hs
theorem atoi_is {s : ByteArray} (h : numW s.data.toList = true) (w : World) : Calls Tryd.prog 50 #[.string s] w fun e w' => e = .returned (.tuple #[.int .i64 (valW s.data.toList : Int), .nilIface]) ∧ Below w.heap.size w w' :=
  (Tryd.strconv_Atoi s _ (by have := num_len h; omega) (atoi_num h) w).mono fun e w' ⟨h1, h2⟩ => ⟨h1, h2.elim fun t ht => ht ▸ Lib.bytesWorld_below w _ t⟩
set_option maxHeartbeats 4000000 in
theorem number_any {w : World} {g : Nat} {s : RS} (h : TxA w g s) : Calls Tryd.prog 38 #[.pointer (some ⟨g, 0, none⟩)] w (NumOut w g s) := by
  have HW := Lib.hid (word_any h)
  clear h
  by_cases hn : numW (rdWord s).1 = true
  · have HN := Lib.hid hn
    have HO : Hid (rdNum s = (valW (rdWord s).1, (rdWord s).2)) := Lib.hid (by unfold rdNum; rw [if_pos hn])
    clear hn
    go_enter Tryd.func38, Tryd.ntmps38
    go_wp2_with (first
      | (go_at_call 39; (with_reducible refine HW.out.mono ?_); rintro e w1 ⟨x, rfl, hx, hxs, ht, hg⟩; have HX := Lib.hid hx; have HS := Lib.hid hxs; have HT := Lib.hid ht; have HG := Lib.hid hg; clear hx hxs ht hg)
      | (go_at_call 49; (with_reducible refine (isNum_is (b := true) (by rw [HX.out]; exact HN.out) _ HS.out).mono ?_); rintro e w2 ⟨rfl, hb⟩; have HB := Lib.hid hb; clear hb)
      | (go_at_call 50; (with_reducible refine (atoi_is (by rw [HX.out]; exact HN.out) _).mono ?_); rintro e w3 ⟨rfl, hb⟩; have HC := Lib.hid hb; clear hb))
    go_ret
    refine ⟨?_, ?_⟩
    · rw [HO.out, ← HX.out]; rfl
    · rw [HO.out]
      exact ⟨(HT.out.below HB.out).below HC.out, gr_tr HG.out (gr_tr (gr_be HB.out) (gr_be HC.out))⟩
  · rw [Bool.not_eq_true] at hn
    have HN := Lib.hid hn
    have HO : Hid (rdNum s = (0, { (rdWord s).2 with wrong := true })) := Lib.hid (by unfold rdNum; rw [hn]; rfl)
    clear hn
    go_enter Tryd.func38, Tryd.ntmps38
    go_wp2_with (first
      | (go_at_call 39; (with_reducible refine HW.out.mono ?_); rintro e w1 ⟨x, rfl, hx, hxs, ht, hg⟩; have HX := Lib.hid hx; have HS := Lib.hid hxs; have HT := Lib.hid ht; have HG := Lib.hid hg; clear hx hxs ht hg)
      | (go_at_call 49; (with_reducible refine (isNum_is (b := false) (by rw [HX.out]; exact HN.out) _ HS.out).mono ?_); rintro e w2 ⟨rfl, hb⟩; obtain ⟨c1, f1⟩ := (HT.out.below hb).cells; have HB := Lib.hid hb; clear hb))
    go_ret
    refine ⟨?_, ?_⟩
    · rw [HO.out]; rfl
    · rw [HO.out]
      exact ⟨(HT.out.below HB.out).wrong, gr_tr HG.out (gr_tr (gr_be HB.out) (gr_set _ _ _ _))⟩
end Go.Proofs.YtokdfdinnaghmaaDoor.Tx
