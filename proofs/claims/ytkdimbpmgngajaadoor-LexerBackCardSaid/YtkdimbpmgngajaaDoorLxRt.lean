/- Walk of the reference: text. -/
import Derived.Test.YtkdimbpmgngajaaDoorLxRw
namespace Go.Proofs.YtkdimbpmgngajaaDoor.Lx
open Go Go.Lib Go.RowKit Go.Proofs.YtkdimbpmgngajaaDoor Go.Maps

set_option maxRecDepth 100000 in
set_option maxHeartbeats 16000000 in
theorem refText_any (s : ByteArray) (w : World) (hs : s.size ≤ maxLen) {p : Nat} {r : Wd} (hp : p + 1 ≤ s.size) (hr : s.data.toList.drop (p + 1) = r) : Calls Tryd.prog 32 #[.string s, .int .i64 p] w (RfO w s p (tag 3 (qotT r))) := by
  unfold maxLen at hs
  obtain ⟨R, hR⟩ : ∃ R, w.heap.size = R := ⟨_, rfl⟩
  have hB0 : Below w.heap.size w (w.alloc (.cells #[.int .i64 0, .int .i64 0, .int .i64 0, .string ⟨#[]⟩] 30)) := below_one w _
  have hT0 : TkB (w.alloc (.cells #[.int .i64 0, .int .i64 0, .int .i64 0, .string ⟨#[]⟩] 30)) w.heap.size 0 0 0 ⟨#[]⟩ := TkB.new w 0 0 0 ⟨#[]⟩
  rw [hR] at hT0
  have HRR := Lib.hid hR
  have hp1' : ((p + 1 : Nat) : Int) = (p : Int) + 1 := by omega
  have hp0 : (0 : Int) ≤ (p : Int) := by omega
  have HR := Lib.hid hr
  have hrl : r.length = s.size - (p + 1) := by rw [← hr]; simp
  go_enter Tryd.func32, Tryd.ntmps32
  go_wp2_with fail
  generalize hW1 : World.alloc w _ = W1 at hB0 hT0
  have HBW := Lib.hid hB0
  have HRT := Lib.hid hT0
  clear hW1 hB0 hT0 hr
  go_loopw [7] (fun iv wr => ∃ j m : Nat, iv = .int .i64 m ∧ j ≤ r.length ∧ Hid (m = (p + 1) + j) ∧ m ≤ s.size ∧ wr = W1 ∧ Hid (∀ i, i < j → txtB (r.getD i 0) = true)) (fun iv _ => s.size - (RowKit.intOf iv).toNat)
  case atStart => exact ⟨0, (p + 1), by go_num, by omega, Lib.hid rfl, by omega, rfl, Lib.hid fun i hi => absurd hi (Nat.not_lt_zero i)⟩
  case round =>
    obtain ⟨j, m, rfl, hj, HM, hms, rfl, HQ⟩ := hrel
    have hm0 : (0 : Int) ≤ (m : Int) := by omega
    have hpm : p ≤ m := by have := HM.out; omega
    have hpm' : (p : Int) ≤ (m : Int) := by omega
    have hms' : (m : Int) ≤ (s.size : Int) := by omega
    by_cases hlt : m < s.size
    · obtain ⟨hjr, hbe⟩ := rest_at HR.out HM.out hlt
      have hlt' : (m : Int) < (s.size : Int) := by omega
      have HBB := Lib.hid hbe
      have HFB := Lib.hid (fun W => inText_any s[m] W)
      clear hbe
      cases hq : txtB s[m]
      · rw [hq] at HFB
        have HL : Hid ((r.takeWhile txtB).length = j) := Lib.hid (tw_len hj HQ.out (fun h => by rw [HBB.out]; exact hq))
        clear hq
        obtain ⟨⟨t0, t1, t2, t3⟩, u0, u1, u2, u3⟩ := HRT.out.cells
        have hdd : ((m : Int) == (s.size : Int)) = false := by rw [beq_eq_false_iff_ne]; omega
        have hh : hdB (r.dropWhile txtB) = s[m] := by rw [(tw_split txtB r).2, HL.out, hdB_drop hjr, HBB.out]
        have e34 : ((s[m].toNat : Int) != (34 : Int)) = !(s[m] == 34) := congrArg not (beq_nat s[m] 34 (by decide))
        cases hv : (s[m] == 34)
        · rw [hv] at e34
          have HE : Hid (qotT r = .error 1) := Lib.hid (by rw [qotT_hd, hh, if_pos (by rw [bne, hv]; rfl)])
          clear hv hh
          go_wp2_with (go_at_call 26; (with_reducible refine (HFB.out _).mono ?_); rintro e w1 ⟨rfl, rfl⟩)
          refine bodyPost_ret (v := .tuple #[.agg #[.int .i64 0, .int .i64 0, .int .i64 0, .string ⟨#[]⟩], .int .i64 p, .int .i64 1]) (results_cell3 (p := 4) (u := 5) (t := 6) rfl _ _ R 30 #[.int .i64 0, .int .i64 0, .int .i64 0, .string ⟨#[]⟩] (0, 0) _ rfl (tk_put HRT.out _ _ _ _) Tryd.underlying30 rfl rfl) rfl ?_
          rw [HE.out]; exact ⟨rfl, below_put HBW.out HRR.out _ _ _ _⟩
        · rw [hv] at e34
          by_cases h24 : 200 < j
          · have d1 : decide ((200 : Int) < (m : Int) - (p : Int) - 1) = true := decide_eq_true (by have := HM.out; omega)
            have HE : Hid (qotT r = .error 5) := Lib.hid (by rw [qotT_hd, hh, if_neg (by rw [bne, hv]; decide), HL.out, if_pos h24])
            clear hv hh h24
            go_wp2_with (go_at_call 26; (with_reducible refine (HFB.out _).mono ?_); rintro e w1 ⟨rfl, rfl⟩)
            refine bodyPost_ret (v := .tuple #[.agg #[.int .i64 0, .int .i64 0, .int .i64 0, .string ⟨#[]⟩], .int .i64 p, .int .i64 5]) (results_cell3 (p := 4) (u := 5) (t := 6) rfl _ _ R 30 #[.int .i64 0, .int .i64 0, .int .i64 0, .string ⟨#[]⟩] (0, 0) _ rfl (tk_put HRT.out _ _ _ _) Tryd.underlying30 rfl rfl) rfl ?_
            rw [HE.out]; exact ⟨rfl, below_put HBW.out HRR.out _ _ _ _⟩
          · have d1 : decide ((200 : Int) < (m : Int) - (p : Int) - 1) = false := decide_eq_false (by have := HM.out; omega)
            have HP := Lib.hid (tw_part HR.out HM.out hms HL.out)
            have HE : Hid (qotT r = .ok (r.takeWhile txtB, (r.dropWhile txtB).drop 1)) := Lib.hid (by rw [qotT_hd, hh, if_neg (by rw [bne, hv]; decide), HL.out, if_neg h24])
            have HD2 : Hid (s.data.toList.drop (m + 1) = (r.dropWhile txtB).drop 1) := Lib.hid (by rw [← HP.out.2.1, List.drop_drop])
            have hp1 : (p : Int) + 1 ≤ (m : Int) := by have := HM.out; omega
            have hp2 : p + 1 ≤ m := by omega
            have hp3 : (0 : Int) ≤ (p : Int) + 1 := by omega
            have hp4 : ((p : Int) + 1).toNat = p + 1 := by omega
            clear hv hh h24
            go_wp2_with (go_at_call 26; (with_reducible refine (HFB.out _).mono ?_); rintro e w1 ⟨rfl, rfl⟩)
            refine bodyPost_ret (v := .tuple #[.agg #[.int .i64 3, .int .i64 0, .int .i64 p, .string (s.extract (p + 1) m)], .int .i64 ((m + 1 : Nat) : Int), .int .i64 0]) (results_cell3 (p := 4) (u := 5) (t := 6) rfl _ _ R 30 #[.int .i64 3, .int .i64 0, .int .i64 p, .string (s.extract (p + 1) m)] (0, 0) _ rfl (tk_put HRT.out _ _ _ _) Tryd.underlying30 rfl rfl) rfl ?_
            rw [HE.out]; exact ret_ok (m := m + 1) (by rw [List.length_drop]; have h1 := HP.out.2.2; have h2 := congrArg List.length HD2.out; rw [List.length_drop, List.length_drop] at h2; simp at h2; omega) HD2.out HP.out.1 rfl (below_put HBW.out HRR.out _ _ _ _)
      · rw [hq] at HFB
        have HQ2 : Hid (∀ i, i < j + 1 → txtB (r.getD i 0) = true) := Lib.hid fun i hi => by
          rcases Nat.lt_or_ge i j with h | h
          · exact HQ.out i h
          · obtain rfl : i = j := by omega
            rw [HBB.out]; exact hq
        clear hq
        go_wp2_with (go_at_call 26; (with_reducible refine (HFB.out _).mono ?_); rintro e w1 ⟨rfl, rfl⟩)
        go_roundw
        case rel => exact ⟨j + 1, m + 1, by go_num, hjr, Lib.hid (by rw [HM.out]; omega), by omega, by simp, HQ2⟩
        case measure => simp [RowKit.intOf]; omega
    · obtain rfl : m = s.size := by omega
      have hd : decide ((s.size : Int) < (s.size : Int)) = false := decide_eq_false (by omega)
      have HL : Hid ((r.takeWhile txtB).length = j) := Lib.hid (tw_len hj HQ.out (fun h => by have := HM.out; omega))
      obtain ⟨⟨t0, t1, t2, t3⟩, u0, u1, u2, u3⟩ := HRT.out.cells
      have hdd : ((s.size : Int) == (s.size : Int)) = true := by simp
      have HE : Hid (qotT r = .error 1) := Lib.hid (by rw [qotT_hd, (tw_split txtB r).2, HL.out, List.drop_of_length_le (by have := HM.out; omega)]; rfl)
      go_wp2_with fail
      refine bodyPost_ret (v := .tuple #[.agg #[.int .i64 0, .int .i64 0, .int .i64 0, .string ⟨#[]⟩], .int .i64 p, .int .i64 1]) (results_cell3 (p := 4) (u := 5) (t := 6) rfl _ _ R 30 #[.int .i64 0, .int .i64 0, .int .i64 0, .string ⟨#[]⟩] (0, 0) _ rfl (tk_put HRT.out _ _ _ _) Tryd.underlying30 rfl rfl) rfl ?_
      rw [HE.out]; exact ⟨rfl, below_put HBW.out HRR.out _ _ _ _⟩
end Go.Proofs.YtkdimbpmgngajaaDoor.Lx
