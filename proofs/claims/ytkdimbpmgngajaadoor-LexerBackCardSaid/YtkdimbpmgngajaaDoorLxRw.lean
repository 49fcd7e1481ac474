/- Walks of the reference: word, number, text. -/
import Derived.Test.YtkdimbpmgngajaaDoorLxRv
import Derived.Deep.RegionHeld3
namespace Go.Proofs.YtkdimbpmgngajaaDoor.Lx
open Go Go.Lib Go.RowKit Go.Proofs.YtkdimbpmgngajaaDoor Go.Maps

theorem results_cell3 {P : Program} {fn : Func} {p u t : Tmp} {ty : TypeId} (h : fn.results = #[.cell p ty, .tmp u, .tmp t]) (tmps : Array Value) (w : World) (g : Nat) (tt : TypeId) (cs : Array Value) (fr : Nat × Nat) (d : TypeDesc)
    (hp : tmps.getD p undef = .pointer (some ⟨g, 0, none⟩)) (hg : w.heap[g]? = some (.cells cs tt fr))
    (hu : P.underlying ty = some d) (hd : (match d with | .struct _ | .array _ _ => true | _ => false) = true) (hi : (P.info? ty).map (·.size) = some cs.size) :
    (results fn tmps).run P w = .ok (.tuple #[.agg cs, tmps.getD u undef, tmps.getD t undef]) w := by
  have hp' : tmps[p]?.getD undef = .pointer (some ⟨g, 0, none⟩) := by simpa using hp
  simp [results, h, hp', asAddr, run_loadVar_row w g tt ty cs fr d hg hu hd hi]
/-- What the reference returns of a token at p. -/
def RfO (w : World) (s : ByteArray) (p : Nat) (res : Except Nat (Nat × Wd × Wd)) (e : Ending) (w' : World) : Prop := match res with
  | .error n => e = .returned (.tuple #[.agg #[.int .i64 0, .int .i64 0, .int .i64 0, .string ⟨#[]⟩], .int .i64 p, .int .i64 n]) ∧ Below w.heap.size w w'
  | .ok (k, x, r2) => ∃ (X : ByteArray) (m : Nat), m + r2.length = s.size ∧ s.data.toList.drop m = r2 ∧ X.data.toList = x ∧ e = .returned (.tuple #[.agg #[.int .i64 k, .int .i64 (numV k x), .int .i64 p, .string X], .int .i64 m, .int .i64 0]) ∧ Below w.heap.size w w'
theorem below_put {w W : World} {R : Nat} (h : Below w.heap.size w W) (hR : w.heap.size = R) (k n p : Int) (x : ByteArray) : Below w.heap.size w ((((W.setCell ⟨R, 0, none⟩ (.int .i64 k)).setCell ⟨R, 1, none⟩ (.int .i64 n)).setCell ⟨R, 2, none⟩ (.int .i64 p)).setCell ⟨R, 3, none⟩ (.string x)) :=
  (((h.setCell (p := ⟨R, 0, none⟩) (Nat.le_of_eq hR) _).setCell (p := ⟨R, 1, none⟩) (Nat.le_of_eq hR) _).setCell (p := ⟨R, 2, none⟩) (Nat.le_of_eq hR) _).setCell (p := ⟨R, 3, none⟩) (Nat.le_of_eq hR) _
theorem ret_ok {r2 : Wd} {k m n : Nat} {x : Wd} {w w' : World} {s X : ByteArray} {p : Nat} (h1 : m + r2.length = s.size) (h2 : s.data.toList.drop m = r2) (h3 : X.data.toList = x) (h4 : numV k x = n) (hb : Below w.heap.size w w') : RfO w s p (.ok (k, x, r2)) (.returned (.tuple #[.agg #[.int .i64 k, .int .i64 n, .int .i64 p, .string X], .int .i64 m, .int .i64 0])) w' := by
  subst h4
  exact ⟨X, m, h1, h2, h3, rfl, hb⟩
theorem tw_part {q : UInt8 → Bool} {s : ByteArray} {p m j : Nat} {r : Wd} (hr : s.data.toList.drop p = r) (hm : m = p + j) (hms : m ≤ s.size) (hl : (r.takeWhile q).length = j) : (s.extract p m).data.toList = r.takeWhile q ∧ s.data.toList.drop m = r.dropWhile q ∧ m + (r.dropWhile q).length = s.size := by
  obtain ⟨h1, h2⟩ := tw_split q r
  rw [hl] at h1 h2
  have h3 : s.data.toList.drop m = r.dropWhile q := by rw [h2, ← hr, List.drop_drop, hm]
  refine ⟨?_, h3, ?_⟩
  · rw [ext_list s p m hms, hr, h1, hm]
    congr 1; omega
  · have h4 := congrArg List.length h3
    rw [List.length_drop] at h4
    rw [← h4]; simp; omega
theorem below_dr {B : Nat} {a w : World} (h : Below B a w) : Below B a w.drew := ⟨h.os, h.tape, h.output, h.size, h.block⟩
theorem hdB_drop {r : Wd} {j : Nat} (h : j < r.length) : hdB (r.drop j) = r.getD j 0 := by
  rw [List.drop_eq_getElem_cons h, List.getD_eq_getElem?_getD, List.getElem?_eq_getElem h]; rfl
theorem hd_drop {r : Wd} {j : Nat} (h : j < r.length) : lowH (r.drop j) = lowB (r.getD j 0) := by rw [lowH_hd, hdB_drop h]
set_option maxRecDepth 100000 in
set_option maxHeartbeats 16000000 in
theorem refWord_any (s : ByteArray) (w : World) (hs : s.size ≤ maxLen) {p : Nat} {r : Wd} (hp : p ≤ s.size) (hr : s.data.toList.drop p = r) : Calls Tryd.prog 29 #[.string s, .int .i64 p] w (RfO w s p (tag 1 (wrdT r))) := by
  unfold maxLen at hs
  obtain ⟨R, hR⟩ : ∃ R, w.heap.size = R := ⟨_, rfl⟩
  have hB0 : Below w.heap.size w (w.alloc (.cells #[.int .i64 0, .int .i64 0, .int .i64 0, .string ⟨#[]⟩] 30)) := below_one w _
  have hT0 : TkB (w.alloc (.cells #[.int .i64 0, .int .i64 0, .int .i64 0, .string ⟨#[]⟩] 30)) w.heap.size 0 0 0 ⟨#[]⟩ := TkB.new w 0 0 0 ⟨#[]⟩
  rw [hR] at hT0
  have HRR := Lib.hid hR
  have hp0 : (0 : Int) ≤ (p : Int) := by omega
  have HR := Lib.hid hr
  have hrl : r.length = s.size - p := by rw [← hr]; simp
  go_enter Tryd.func29, Tryd.ntmps29
  go_wp2_with fail
  generalize hW1 : World.alloc w _ = W1 at hB0 hT0
  have HBW := Lib.hid hB0
  have HRT := Lib.hid hT0
  clear hW1 hB0 hT0 hr
  go_loopw [7] (fun iv wr => ∃ j m : Nat, iv = .int .i64 m ∧ j ≤ r.length ∧ Hid (m = p + j) ∧ m ≤ s.size ∧ wr = W1 ∧ Hid (∀ i, i < j → wrdB (r.getD i 0) = true)) (fun iv _ => s.size - (RowKit.intOf iv).toNat)
  case atStart => exact ⟨0, p, by go_num, by omega, Lib.hid rfl, by omega, rfl, Lib.hid fun i hi => absurd hi (Nat.not_lt_zero i)⟩
  case round =>
    obtain ⟨j, m, rfl, hj, HM, hms, rfl, HQ⟩ := hrel
    have hm0 : (0 : Int) ≤ (m : Int) := by omega
    have hpm : p ≤ m := by have := HM.out; omega
    have hpm' : (p : Int) ≤ (m : Int) := by omega
    have hms' : (m : Int) ≤ (s.size : Int) := by omega
    by_cases hlt : m < s.size
    · obtain ⟨hjr, hbe⟩ := rest_at HR.out HM.out hlt
      have hlt' : (m : Int) < (s.size : Int) := by omega
      have HBB := Lib.hid hbe
      have HFB := Lib.hid (fun W => inWord_any s[m] W)
      clear hbe
      cases hq : wrdB s[m]
      · rw [hq] at HFB
        have HL : Hid ((r.takeWhile wrdB).length = j) := Lib.hid (tw_len hj HQ.out (fun h => by rw [HBB.out]; exact hq))
        clear hq
        by_cases h24 : 24 < j
        · have d1 : decide ((24 : Int) < (m : Int) - (p : Int)) = true := decide_eq_true (by have := HM.out; omega)
          have HE : Hid (wrdT r = .error 5) := Lib.hid (by unfold wrdT; rw [HL.out, if_pos h24])
          obtain ⟨⟨t0, t1, t2, t3⟩, u0, u1, u2, u3⟩ := HRT.out.cells
          clear h24
          go_wp2_with (go_at_call 43; (with_reducible refine (HFB.out _).mono ?_); rintro e w1 ⟨rfl, rfl⟩)
          refine bodyPost_ret (v := .tuple #[.agg #[.int .i64 0, .int .i64 0, .int .i64 0, .string ⟨#[]⟩], .int .i64 p, .int .i64 5]) (results_cell3 (p := 4) (u := 5) (t := 6) rfl _ _ R 30 #[.int .i64 0, .int .i64 0, .int .i64 0, .string ⟨#[]⟩] (0, 0) _ rfl (tk_put HRT.out _ _ _ _) Tryd.underlying30 rfl rfl) rfl ?_
          rw [HE.out]; exact ⟨rfl, below_put HBW.out HRR.out _ _ _ _⟩
        · have d1 : decide ((24 : Int) < (m : Int) - (p : Int)) = false := decide_eq_false (by have := HM.out; omega)
          have HE : Hid (wrdT r = .ok (r.takeWhile wrdB, r.dropWhile wrdB)) := Lib.hid (by unfold wrdT; rw [HL.out, if_neg h24])
          have HP := Lib.hid (tw_part HR.out HM.out hms HL.out)
          obtain ⟨⟨t0, t1, t2, t3⟩, u0, u1, u2, u3⟩ := HRT.out.cells
          clear h24
          go_wp2_with (go_at_call 43; (with_reducible refine (HFB.out _).mono ?_); rintro e w1 ⟨rfl, rfl⟩)
          refine bodyPost_ret (v := .tuple #[.agg #[.int .i64 1, .int .i64 0, .int .i64 p, .string (s.extract p m)], .int .i64 m, .int .i64 0]) (results_cell3 (p := 4) (u := 5) (t := 6) rfl _ _ R 30 #[.int .i64 1, .int .i64 0, .int .i64 p, .string (s.extract p m)] (0, 0) _ rfl (tk_put HRT.out _ _ _ _) Tryd.underlying30 rfl rfl) rfl ?_
          rw [HE.out]; exact ret_ok HP.out.2.2 HP.out.2.1 HP.out.1 rfl (below_put HBW.out HRR.out _ _ _ _)
      · rw [hq] at HFB
        have HQ2 : Hid (∀ i, i < j + 1 → wrdB (r.getD i 0) = true) := Lib.hid fun i hi => by
          rcases Nat.lt_or_ge i j with h | h
          · exact HQ.out i h
          · obtain rfl : i = j := by omega
            rw [HBB.out]; exact hq
        clear hq
        go_wp2_with (go_at_call 43; (with_reducible refine (HFB.out _).mono ?_); rintro e w1 ⟨rfl, rfl⟩)
        go_roundw
        case rel => exact ⟨j + 1, m + 1, by go_num, hjr, Lib.hid (by rw [HM.out]; omega), by omega, by simp, HQ2⟩
        case measure => simp [RowKit.intOf]; omega
    · obtain rfl : m = s.size := by omega
      have hd : decide ((s.size : Int) < (s.size : Int)) = false := decide_eq_false (by omega)
      have HL : Hid ((r.takeWhile wrdB).length = j) := Lib.hid (tw_len hj HQ.out (fun h => by have := HM.out; omega))
      by_cases h24 : 24 < j
      · have d1 : decide ((24 : Int) < (s.size : Int) - (p : Int)) = true := decide_eq_true (by have := HM.out; omega)
        have HE : Hid (wrdT r = .error 5) := Lib.hid (by unfold wrdT; rw [HL.out, if_pos h24])
        obtain ⟨⟨t0, t1, t2, t3⟩, u0, u1, u2, u3⟩ := HRT.out.cells
        clear h24
        go_wp2_with fail
        refine bodyPost_ret (v := .tuple #[.agg #[.int .i64 0, .int .i64 0, .int .i64 0, .string ⟨#[]⟩], .int .i64 p, .int .i64 5]) (results_cell3 (p := 4) (u := 5) (t := 6) rfl _ _ R 30 #[.int .i64 0, .int .i64 0, .int .i64 0, .string ⟨#[]⟩] (0, 0) _ rfl (tk_put HRT.out _ _ _ _) Tryd.underlying30 rfl rfl) rfl ?_
        rw [HE.out]; exact ⟨rfl, below_put HBW.out HRR.out _ _ _ _⟩
      · have d1 : decide ((24 : Int) < (s.size : Int) - (p : Int)) = false := decide_eq_false (by have := HM.out; omega)
        have HE : Hid (wrdT r = .ok (r.takeWhile wrdB, r.dropWhile wrdB)) := Lib.hid (by unfold wrdT; rw [HL.out, if_neg h24])
        have HP := Lib.hid (tw_part HR.out HM.out hms HL.out)
        obtain ⟨⟨t0, t1, t2, t3⟩, u0, u1, u2, u3⟩ := HRT.out.cells
        clear h24
        go_wp2_with fail
        refine bodyPost_ret (v := .tuple #[.agg #[.int .i64 1, .int .i64 0, .int .i64 p, .string (s.extract p s.size)], .int .i64 s.size, .int .i64 0]) (results_cell3 (p := 4) (u := 5) (t := 6) rfl _ _ R 30 #[.int .i64 1, .int .i64 0, .int .i64 p, .string (s.extract p s.size)] (0, 0) _ rfl (tk_put HRT.out _ _ _ _) Tryd.underlying30 rfl rfl) rfl ?_
        rw [HE.out]; exact ret_ok HP.out.2.2 HP.out.2.1 HP.out.1 rfl (below_put HBW.out HRR.out _ _ _ _)
set_option maxRecDepth 100000 in
set_option maxHeartbeats 16000000 in
theorem refNumber_any (s : ByteArray) (w : World) (hs : s.size ≤ maxLen) {p : Nat} {r : Wd} (hp : p ≤ s.size) (hr : s.data.toList.drop p = r) : Calls Tryd.prog 31 #[.string s, .int .i64 p] w (RfO w s p (tag 2 (numT r))) := by
  unfold maxLen at hs
  obtain ⟨R, hR⟩ : ∃ R, w.heap.size = R := ⟨_, rfl⟩
  have hB0 : Below w.heap.size w (w.alloc (.cells #[.int .i64 0, .int .i64 0, .int .i64 0, .string ⟨#[]⟩] 30)) := below_one w _
  have hT0 : TkB (w.alloc (.cells #[.int .i64 0, .int .i64 0, .int .i64 0, .string ⟨#[]⟩] 30)) w.heap.size 0 0 0 ⟨#[]⟩ := TkB.new w 0 0 0 ⟨#[]⟩
  rw [hR] at hT0
  have HRR := Lib.hid hR
  have hp0 : (0 : Int) ≤ (p : Int) := by omega
  have HR := Lib.hid hr
  have hrl : r.length = s.size - p := by rw [← hr]; simp
  go_enter Tryd.func31, Tryd.ntmps31
  go_wp2_with fail
  generalize hW1 : World.alloc w _ = W1 at hB0 hT0
  have HBW := Lib.hid hB0
  have HRT := Lib.hid hT0
  clear hW1 hB0 hT0 hr
  go_loopw [7] (fun iv wr => ∃ j m : Nat, iv = .int .i64 m ∧ j ≤ r.length ∧ Hid (m = p + j) ∧ m ≤ s.size ∧ wr = W1 ∧ Hid (∀ i, i < j → digB (r.getD i 0) = true)) (fun iv _ => s.size - (RowKit.intOf iv).toNat)
  case atStart => exact ⟨0, p, by go_num, by omega, Lib.hid rfl, by omega, rfl, Lib.hid fun i hi => absurd hi (Nat.not_lt_zero i)⟩
  case round =>
    obtain ⟨j, m, rfl, hj, HM, hms, rfl, HQ⟩ := hrel
    have hm0 : (0 : Int) ≤ (m : Int) := by omega
    have hpm : p ≤ m := by have := HM.out; omega
    have hpm' : (p : Int) ≤ (m : Int) := by omega
    have hms' : (m : Int) ≤ (s.size : Int) := by omega
    by_cases hlt : m < s.size
    · obtain ⟨hjr, hbe⟩ := rest_at HR.out HM.out hlt
      have hlt' : (m : Int) < (s.size : Int) := by omega
      have HBB := Lib.hid hbe
      have HFB := Lib.hid (fun W => digit_any s[m] W)
      clear hbe
      cases hq : digB s[m]
      · rw [hq] at HFB
        have HL : Hid ((r.takeWhile digB).length = j) := Lib.hid (tw_len hj HQ.out (fun h => by rw [HBB.out]; exact hq))
        clear hq
        by_cases h24 : 16 < j
        · have d1 : decide ((16 : Int) < (m : Int) - (p : Int)) = true := decide_eq_true (by have := HM.out; omega)
          have HE : Hid (numT r = .error 5) := Lib.hid (by unfold numT; rw [HL.out, if_pos h24])
          obtain ⟨⟨t0, t1, t2, t3⟩, u0, u1, u2, u3⟩ := HRT.out.cells
          clear h24
          go_wp2_with (go_at_call 30; (with_reducible refine (HFB.out _).mono ?_); rintro e w1 ⟨rfl, rfl⟩)
          refine bodyPost_ret (v := .tuple #[.agg #[.int .i64 0, .int .i64 0, .int .i64 0, .string ⟨#[]⟩], .int .i64 p, .int .i64 5]) (results_cell3 (p := 4) (u := 5) (t := 6) rfl _ _ R 30 #[.int .i64 0, .int .i64 0, .int .i64 0, .string ⟨#[]⟩] (0, 0) _ rfl (tk_put HRT.out _ _ _ _) Tryd.underlying30 rfl rfl) rfl ?_
          rw [HE.out]; exact ⟨rfl, below_put HBW.out HRR.out _ _ _ _⟩
        · have d1 : decide ((16 : Int) < (m : Int) - (p : Int)) = false := decide_eq_false (by have := HM.out; omega)
          have HP := Lib.hid (tw_part HR.out HM.out hms HL.out)
          have hxz : (s.extract p m).size ≤ 16 := by rw [ByteArray.size_extract]; have := HM.out; omega
          have HVA := Lib.hid (fun W => refValue_any (s.extract p m) W hxz (fun b hb => tw_all digB r b (by rw [← HP.out.1]; exact hb)))
          obtain ⟨nv, hnv⟩ : ∃ nv, valD (s.extract p m).data.toList = nv := ⟨_, rfl⟩
          rw [hnv] at HVA
          have HNV : Hid (numV 2 (r.takeWhile digB) = nv) := Lib.hid (by rw [← hnv, HP.out.1]; rfl)
          obtain ⟨⟨t0, t1, t2, t3⟩, u0, u1, u2, u3⟩ := HRT.out.cells
          clear hnv hxz
          have hlo : lowH (r.dropWhile digB) = lowB s[m] := by rw [(tw_split digB r).2, HL.out, hd_drop hjr, HBB.out]
          have HLC := Lib.hid (fun W => lower_any s[m] W)
          cases hv : lowB s[m]
          · rw [hv] at HLC hlo
            have HLO := Lib.hid hlo
            clear hv hlo
            have HE : Hid (numT r = .ok (r.takeWhile digB, r.dropWhile digB)) := Lib.hid (by unfold numT; rw [HL.out, if_neg h24, HLO.out]; rfl)
            clear h24
            go_upto_region 8 with (first | (go_at_call 30; (with_reducible refine (HFB.out _).mono ?_); rintro e w1 ⟨rfl, rfl⟩) | (go_at_call 28; (with_reducible refine (HLC.out _).mono ?_); rintro e w1 ⟨rfl, rfl⟩))
            go_region_held3 (fun w' => True) (trivial) (first | (go_at_call 14; (with_reducible refine (HVA.out _).mono ?_); rintro e w1 ⟨rfl, rfl⟩))
            go_wp2_with fail
            refine bodyPost_ret (v := .tuple #[.agg #[.int .i64 2, .int .i64 nv, .int .i64 p, .string (s.extract p m)], .int .i64 m, .int .i64 0]) (results_cell3 (p := 4) (u := 5) (t := 6) rfl _ _ R 30 #[.int .i64 2, .int .i64 nv, .int .i64 p, .string (s.extract p m)] (0, 0) _ rfl (tk_put HRT.out _ _ _ _) Tryd.underlying30 rfl rfl) rfl ?_
            rw [HE.out]; exact ret_ok HP.out.2.2 HP.out.2.1 HP.out.1 HNV.out (below_dr (below_put HBW.out HRR.out _ _ _ _))
          · rw [hv] at HLC hlo
            have HE : Hid (numT r = .error 1) := Lib.hid (by unfold numT; rw [HL.out, if_neg h24, hlo]; rfl)
            clear hv hlo h24
            go_wp2_with (first | (go_at_call 30; (with_reducible refine (HFB.out _).mono ?_); rintro e w1 ⟨rfl, rfl⟩) | (go_at_call 28; (with_reducible refine (HLC.out _).mono ?_); rintro e w1 ⟨rfl, rfl⟩))
            refine bodyPost_ret (v := .tuple #[.agg #[.int .i64 0, .int .i64 0, .int .i64 0, .string ⟨#[]⟩], .int .i64 p, .int .i64 1]) (results_cell3 (p := 4) (u := 5) (t := 6) rfl _ _ R 30 #[.int .i64 0, .int .i64 0, .int .i64 0, .string ⟨#[]⟩] (0, 0) _ rfl (tk_put HRT.out _ _ _ _) Tryd.underlying30 rfl rfl) rfl ?_
            rw [HE.out]; exact ⟨rfl, below_put HBW.out HRR.out _ _ _ _⟩
      · rw [hq] at HFB
        have HQ2 : Hid (∀ i, i < j + 1 → digB (r.getD i 0) = true) := Lib.hid fun i hi => by
          rcases Nat.lt_or_ge i j with h | h
          · exact HQ.out i h
          · obtain rfl : i = j := by omega
            rw [HBB.out]; exact hq
        clear hq
        go_wp2_with (go_at_call 30; (with_reducible refine (HFB.out _).mono ?_); rintro e w1 ⟨rfl, rfl⟩)
        go_roundw
        case rel => exact ⟨j + 1, m + 1, by go_num, hjr, Lib.hid (by rw [HM.out]; omega), by omega, by simp, HQ2⟩
        case measure => simp [RowKit.intOf]; omega
    · obtain rfl : m = s.size := by omega
      have hd : decide ((s.size : Int) < (s.size : Int)) = false := decide_eq_false (by omega)
      have HL : Hid ((r.takeWhile digB).length = j) := Lib.hid (tw_len hj HQ.out (fun h => by have := HM.out; omega))
      by_cases h24 : 16 < j
      · have d1 : decide ((16 : Int) < (s.size : Int) - (p : Int)) = true := decide_eq_true (by have := HM.out; omega)
        have HE : Hid (numT r = .error 5) := Lib.hid (by unfold numT; rw [HL.out, if_pos h24])
        obtain ⟨⟨t0, t1, t2, t3⟩, u0, u1, u2, u3⟩ := HRT.out.cells
        clear h24
        go_wp2_with fail
        refine bodyPost_ret (v := .tuple #[.agg #[.int .i64 0, .int .i64 0, .int .i64 0, .string ⟨#[]⟩], .int .i64 p, .int .i64 5]) (results_cell3 (p := 4) (u := 5) (t := 6) rfl _ _ R 30 #[.int .i64 0, .int .i64 0, .int .i64 0, .string ⟨#[]⟩] (0, 0) _ rfl (tk_put HRT.out _ _ _ _) Tryd.underlying30 rfl rfl) rfl ?_
        rw [HE.out]; exact ⟨rfl, below_put HBW.out HRR.out _ _ _ _⟩
      · have d1 : decide ((16 : Int) < (s.size : Int) - (p : Int)) = false := decide_eq_false (by have := HM.out; omega)
        have HP := Lib.hid (tw_part HR.out HM.out hms HL.out)
        have hxz : (s.extract p s.size).size ≤ 16 := by rw [ByteArray.size_extract]; have := HM.out; omega
        have HVA := Lib.hid (fun W => refValue_any (s.extract p s.size) W hxz (fun b hb => tw_all digB r b (by rw [← HP.out.1]; exact hb)))
        obtain ⟨nv, hnv⟩ : ∃ nv, valD (s.extract p s.size).data.toList = nv := ⟨_, rfl⟩
        rw [hnv] at HVA
        have HNV : Hid (numV 2 (r.takeWhile digB) = nv) := Lib.hid (by rw [← hnv, HP.out.1]; rfl)
        obtain ⟨⟨t0, t1, t2, t3⟩, u0, u1, u2, u3⟩ := HRT.out.cells
        clear hnv hxz
        have HLO : Hid (lowH (r.dropWhile digB) = false) := Lib.hid (by rw [(tw_split digB r).2, HL.out, List.drop_of_length_le (by have := HM.out; omega)]; rfl)
        have HE : Hid (numT r = .ok (r.takeWhile digB, r.dropWhile digB)) := Lib.hid (by unfold numT; rw [HL.out, if_neg h24, HLO.out]; rfl)
        clear h24
        go_upto_region 8 with fail
        go_region_held3 (fun w' => True) (trivial) (first | (go_at_call 14; (with_reducible refine (HVA.out _).mono ?_); rintro e w1 ⟨rfl, rfl⟩))
        go_wp2_with fail
        refine bodyPost_ret (v := .tuple #[.agg #[.int .i64 2, .int .i64 nv, .int .i64 p, .string (s.extract p s.size)], .int .i64 s.size, .int .i64 0]) (results_cell3 (p := 4) (u := 5) (t := 6) rfl _ _ R 30 #[.int .i64 2, .int .i64 nv, .int .i64 p, .string (s.extract p s.size)] (0, 0) _ rfl (tk_put HRT.out _ _ _ _) Tryd.underlying30 rfl rfl) rfl ?_
        rw [HE.out]; exact ret_ok HP.out.2.2 HP.out.2.1 HP.out.1 HNV.out (below_dr (below_put HBW.out HRR.out _ _ _ _))
end Go.Proofs.YtkdimbpmgngajaaDoor.Lx
