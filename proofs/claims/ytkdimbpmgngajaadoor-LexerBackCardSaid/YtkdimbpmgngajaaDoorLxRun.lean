/- Walks: the cursor's run, with each function of a byte. -/
import Derived.Test.YtkdimbpmgngajaaDoorLxP
namespace Go.Proofs.YtkdimbpmgngajaaDoor.Lx
open Go Go.Lib Go.RowKit Go.Proofs.YtkdimbpmgngajaaDoor

set_option maxRecDepth 100000 in
set_option maxHeartbeats 8000000 in
theorem runWord_any {w : World} {g p : Nat} {s : ByteArray} {r : Wd} (h : Cur w g s p r) :
    Calls Tryd.prog 45 #[.pointer (some ⟨g, 0, none⟩), .func (.func 48) #[] #[]] w (RunOut w g s p r wrdB) := by
  obtain ⟨c0, c1, f0, f1⟩ := h.cells
  have hs9 := h.sz
  unfold maxLen at hs9
  have hf : Byt 48 wrdB := isWord_any
  obtain ⟨q, hqq⟩ : ∃ q, wrdB = q := ⟨_, rfl⟩
  rw [hqq] at hf ⊢
  have HF := Lib.hid hf
  have H0 := Lib.hid h
  have hpl := h.len
  clear hf h hqq
  go_enter Tryd.func45, Tryd.ntmps45
  go_wp2_with fail
  clear c0 c1 f0 f1
  go_loopw [] (fun wr => ∃ j m : Nat, j ≤ r.length ∧ Hid (m = p + j) ∧ Hid (CO w wr g s m (r.drop j)) ∧ Hid (∀ i, i < j → q (r.getD i 0) = true)) (fun wr => s.size - posOf wr g)
  case atStart => exact ⟨0, p, Nat.zero_le _, Lib.hid rfl, Lib.hid ⟨H0.out, gr_re _ _⟩, Lib.hid fun i hi => absurd hi (Nat.not_lt_zero i)⟩
  case round =>
    obtain ⟨j, m, hj, HM, HC, HQ⟩ := hrel
    obtain ⟨c0, c1, f0, f1⟩ := HC.out.1.cells
    have HP := Lib.hid HC.out.1.pos
    have hp0 : (0 : Int) ≤ (m : Int) := by omega
    have hmd : m ≤ s.size := by have := HM.out; omega
    have hpm : (p : Int) ≤ (m : Int) := by have := HM.out; omega
    have hms : (m : Int) ≤ (s.size : Int) := by omega
    have hpp : (0 : Int) ≤ (p : Int) := by omega
    have hpm' : p ≤ m := by omega
    have HEXIT : Hid ((r.takeWhile q).length = j → ∀ n n2, RunOut w g s p r q (.returned (.string (s.extract p m))) ((wr.drewN n).drewN n2)) := Lib.hid fun h n n2 => by
      obtain ⟨h1, h2⟩ := tw_split q r
      rw [h] at h1 h2
      refine ⟨_, rfl, ?_, ?_, ?_⟩
      · rw [ext_list s p m hmd, H0.out.rst, h1, HM.out]
        congr 1; omega
      · rw [ByteArray.size_extract]; have := H0.out.sz; omega
      · rw [h, h2, ← HM.out]
        exact ⟨(HC.out.1.drew n).drew n2, gr_tr HC.out.2 (gr_tr (gr_dr _ _ n) (gr_dr _ _ n2))⟩
    by_cases hlt : m < s.size
    · obtain ⟨hjr, hbe⟩ := rest_at H0.out.rst HM.out hlt
      have hlt' : (m : Int) < (s.size : Int) := by omega
      obtain ⟨b, hb⟩ : ∃ b, s[m] = b := ⟨_, rfl⟩
      have HBB := Lib.hid (hbe.trans hb)
      have HFB := Lib.hid (fun W => HF.out b W)
      clear hbe
      cases hq : q b
      · rw [hq] at HFB
        have HL : Hid ((r.takeWhile q).length = j) := Lib.hid (tw_len hj HQ.out (fun h => by rw [HBB.out]; exact hq))
        clear hq
        go_wp2_with fail
        go_quiet ((go_at_call 48; exact Calls.quiet_of_same (HFB.out _)))
        go_wp2_with fail
        go_quiet (fail)
        go_wp2_with fail
        go_ret
        have h9 := HEXIT.out HL.out
        first
          | exact h9 _ _
          | (simpa using h9 _ _)
      · rw [hq] at HFB
        have HQ2 : Hid (∀ i, i < j + 1 → q (r.getD i 0) = true) := Lib.hid fun i hi => by
          rcases Nat.lt_or_ge i j with h | h
          · exact HQ.out i h
          · obtain rfl : i = j := by omega
            rw [HBB.out]; exact hq
        clear hq
        go_wp2_with fail
        go_quiet ((go_at_call 48; exact Calls.quiet_of_same (HFB.out _)))
        generalize hW : World.drewN wr _ = W4
        have hC4 : CO w W4 g s m (r.drop j) := hW ▸ ⟨HC.out.1.drew _, gr_tr HC.out.2 (gr_dr _ _ _)⟩
        have HC4 := Lib.hid hC4
        clear c0 c1 f0 f1 hW hC4
        obtain ⟨c0, c1, f0, f1⟩ := HC4.out.1.cells
        go_wp2_with fail
        go_roundw
        case rel =>
          have h9 := HC4.out.1.set 1 (by rw [List.length_drop]; omega)
          rw [List.drop_drop] at h9
          exact ⟨j + 1, m + 1, hjr, Lib.hid (by rw [HM.out]; omega), Lib.hid ⟨h9, gr_tr HC4.out.2 (gr_set _ _ _ _)⟩, HQ2⟩
        case measure =>
          have h9 := HC4.out.1.set 1 (by rw [List.length_drop]; omega)
          have h8 := h9.pos
          have h7 := HP.out
          first
            | (rw [h7]; simp only [h8]; omega)
            | (rw [h7]; erw [h8]; omega)
    · obtain rfl : m = s.size := by omega
      have HL : Hid ((r.takeWhile q).length = j) := Lib.hid (tw_len hj HQ.out (fun h => by have := HM.out; omega))
      go_wp2_with fail
      go_quiet (fail)
      go_wp2_with fail
      go_quiet (fail)
      go_wp2_with fail
      go_ret
      have h9 := HEXIT.out HL.out
      first
        | exact h9 _ _
        | (simpa using h9 _ _)
set_option maxRecDepth 100000 in
set_option maxHeartbeats 8000000 in
theorem runDigit_any {w : World} {g p : Nat} {s : ByteArray} {r : Wd} (h : Cur w g s p r) :
    Calls Tryd.prog 45 #[.pointer (some ⟨g, 0, none⟩), .func (.func 38) #[] #[]] w (RunOut w g s p r digB) := by
  obtain ⟨c0, c1, f0, f1⟩ := h.cells
  have hs9 := h.sz
  unfold maxLen at hs9
  have hf : Byt 38 digB := isDigit_any
  obtain ⟨q, hqq⟩ : ∃ q, digB = q := ⟨_, rfl⟩
  rw [hqq] at hf ⊢
  have HF := Lib.hid hf
  have H0 := Lib.hid h
  have hpl := h.len
  clear hf h hqq
  go_enter Tryd.func45, Tryd.ntmps45
  go_wp2_with fail
  clear c0 c1 f0 f1
  go_loopw [] (fun wr => ∃ j m : Nat, j ≤ r.length ∧ Hid (m = p + j) ∧ Hid (CO w wr g s m (r.drop j)) ∧ Hid (∀ i, i < j → q (r.getD i 0) = true)) (fun wr => s.size - posOf wr g)
  case atStart => exact ⟨0, p, Nat.zero_le _, Lib.hid rfl, Lib.hid ⟨H0.out, gr_re _ _⟩, Lib.hid fun i hi => absurd hi (Nat.not_lt_zero i)⟩
  case round =>
    obtain ⟨j, m, hj, HM, HC, HQ⟩ := hrel
    obtain ⟨c0, c1, f0, f1⟩ := HC.out.1.cells
    have HP := Lib.hid HC.out.1.pos
    have hp0 : (0 : Int) ≤ (m : Int) := by omega
    have hmd : m ≤ s.size := by have := HM.out; omega
    have hpm : (p : Int) ≤ (m : Int) := by have := HM.out; omega
    have hms : (m : Int) ≤ (s.size : Int) := by omega
    have hpp : (0 : Int) ≤ (p : Int) := by omega
    have hpm' : p ≤ m := by omega
    have HEXIT : Hid ((r.takeWhile q).length = j → ∀ n n2, RunOut w g s p r q (.returned (.string (s.extract p m))) ((wr.drewN n).drewN n2)) := Lib.hid fun h n n2 => by
      obtain ⟨h1, h2⟩ := tw_split q r
      rw [h] at h1 h2
      refine ⟨_, rfl, ?_, ?_, ?_⟩
      · rw [ext_list s p m hmd, H0.out.rst, h1, HM.out]
        congr 1; omega
      · rw [ByteArray.size_extract]; have := H0.out.sz; omega
      · rw [h, h2, ← HM.out]
        exact ⟨(HC.out.1.drew n).drew n2, gr_tr HC.out.2 (gr_tr (gr_dr _ _ n) (gr_dr _ _ n2))⟩
    by_cases hlt : m < s.size
    · obtain ⟨hjr, hbe⟩ := rest_at H0.out.rst HM.out hlt
      have hlt' : (m : Int) < (s.size : Int) := by omega
      obtain ⟨b, hb⟩ : ∃ b, s[m] = b := ⟨_, rfl⟩
      have HBB := Lib.hid (hbe.trans hb)
      have HFB := Lib.hid (fun W => HF.out b W)
      clear hbe
      cases hq : q b
      · rw [hq] at HFB
        have HL : Hid ((r.takeWhile q).length = j) := Lib.hid (tw_len hj HQ.out (fun h => by rw [HBB.out]; exact hq))
        clear hq
        go_wp2_with fail
        go_quiet ((go_at_call 38; exact Calls.quiet_of_same (HFB.out _)))
        go_wp2_with fail
        go_quiet (fail)
        go_wp2_with fail
        go_ret
        have h9 := HEXIT.out HL.out
        first
          | exact h9 _ _
          | (simpa using h9 _ _)
      · rw [hq] at HFB
        have HQ2 : Hid (∀ i, i < j + 1 → q (r.getD i 0) = true) := Lib.hid fun i hi => by
          rcases Nat.lt_or_ge i j with h | h
          · exact HQ.out i h
          · obtain rfl : i = j := by omega
            rw [HBB.out]; exact hq
        clear hq
        go_wp2_with fail
        go_quiet ((go_at_call 38; exact Calls.quiet_of_same (HFB.out _)))
        generalize hW : World.drewN wr _ = W4
        have hC4 : CO w W4 g s m (r.drop j) := hW ▸ ⟨HC.out.1.drew _, gr_tr HC.out.2 (gr_dr _ _ _)⟩
        have HC4 := Lib.hid hC4
        clear c0 c1 f0 f1 hW hC4
        obtain ⟨c0, c1, f0, f1⟩ := HC4.out.1.cells
        go_wp2_with fail
        go_roundw
        case rel =>
          have h9 := HC4.out.1.set 1 (by rw [List.length_drop]; omega)
          rw [List.drop_drop] at h9
          exact ⟨j + 1, m + 1, hjr, Lib.hid (by rw [HM.out]; omega), Lib.hid ⟨h9, gr_tr HC4.out.2 (gr_set _ _ _ _)⟩, HQ2⟩
        case measure =>
          have h9 := HC4.out.1.set 1 (by rw [List.length_drop]; omega)
          have h8 := h9.pos
          have h7 := HP.out
          first
            | (rw [h7]; simp only [h8]; omega)
            | (rw [h7]; erw [h8]; omega)
    · obtain rfl : m = s.size := by omega
      have HL : Hid ((r.takeWhile q).length = j) := Lib.hid (tw_len hj HQ.out (fun h => by have := HM.out; omega))
      go_wp2_with fail
      go_quiet (fail)
      go_wp2_with fail
      go_quiet (fail)
      go_wp2_with fail
      go_ret
      have h9 := HEXIT.out HL.out
      first
        | exact h9 _ _
        | (simpa using h9 _ _)
set_option maxRecDepth 100000 in
set_option maxHeartbeats 8000000 in
theorem runComment_any {w : World} {g p : Nat} {s : ByteArray} {r : Wd} (h : Cur w g s p r) :
    Calls Tryd.prog 45 #[.pointer (some ⟨g, 0, none⟩), .func (.func 47) #[] #[]] w (RunOut w g s p r comB) := by
  obtain ⟨c0, c1, f0, f1⟩ := h.cells
  have hs9 := h.sz
  unfold maxLen at hs9
  have hf : Byt 47 comB := isComment_any
  obtain ⟨q, hqq⟩ : ∃ q, comB = q := ⟨_, rfl⟩
  rw [hqq] at hf ⊢
  have HF := Lib.hid hf
  have H0 := Lib.hid h
  have hpl := h.len
  clear hf h hqq
  go_enter Tryd.func45, Tryd.ntmps45
  go_wp2_with fail
  clear c0 c1 f0 f1
  go_loopw [] (fun wr => ∃ j m : Nat, j ≤ r.length ∧ Hid (m = p + j) ∧ Hid (CO w wr g s m (r.drop j)) ∧ Hid (∀ i, i < j → q (r.getD i 0) = true)) (fun wr => s.size - posOf wr g)
  case atStart => exact ⟨0, p, Nat.zero_le _, Lib.hid rfl, Lib.hid ⟨H0.out, gr_re _ _⟩, Lib.hid fun i hi => absurd hi (Nat.not_lt_zero i)⟩
  case round =>
    obtain ⟨j, m, hj, HM, HC, HQ⟩ := hrel
    obtain ⟨c0, c1, f0, f1⟩ := HC.out.1.cells
    have HP := Lib.hid HC.out.1.pos
    have hp0 : (0 : Int) ≤ (m : Int) := by omega
    have hmd : m ≤ s.size := by have := HM.out; omega
    have hpm : (p : Int) ≤ (m : Int) := by have := HM.out; omega
    have hms : (m : Int) ≤ (s.size : Int) := by omega
    have hpp : (0 : Int) ≤ (p : Int) := by omega
    have hpm' : p ≤ m := by omega
    have HEXIT : Hid ((r.takeWhile q).length = j → ∀ n n2, RunOut w g s p r q (.returned (.string (s.extract p m))) ((wr.drewN n).drewN n2)) := Lib.hid fun h n n2 => by
      obtain ⟨h1, h2⟩ := tw_split q r
      rw [h] at h1 h2
      refine ⟨_, rfl, ?_, ?_, ?_⟩
      · rw [ext_list s p m hmd, H0.out.rst, h1, HM.out]
        congr 1; omega
      · rw [ByteArray.size_extract]; have := H0.out.sz; omega
      · rw [h, h2, ← HM.out]
        exact ⟨(HC.out.1.drew n).drew n2, gr_tr HC.out.2 (gr_tr (gr_dr _ _ n) (gr_dr _ _ n2))⟩
    by_cases hlt : m < s.size
    · obtain ⟨hjr, hbe⟩ := rest_at H0.out.rst HM.out hlt
      have hlt' : (m : Int) < (s.size : Int) := by omega
      obtain ⟨b, hb⟩ : ∃ b, s[m] = b := ⟨_, rfl⟩
      have HBB := Lib.hid (hbe.trans hb)
      have HFB := Lib.hid (fun W => HF.out b W)
      clear hbe
      cases hq : q b
      · rw [hq] at HFB
        have HL : Hid ((r.takeWhile q).length = j) := Lib.hid (tw_len hj HQ.out (fun h => by rw [HBB.out]; exact hq))
        clear hq
        go_wp2_with fail
        go_quiet ((go_at_call 47; exact Calls.quiet_of_same (HFB.out _)))
        go_wp2_with fail
        go_quiet (fail)
        go_wp2_with fail
        go_ret
        have h9 := HEXIT.out HL.out
        first
          | exact h9 _ _
          | (simpa using h9 _ _)
      · rw [hq] at HFB
        have HQ2 : Hid (∀ i, i < j + 1 → q (r.getD i 0) = true) := Lib.hid fun i hi => by
          rcases Nat.lt_or_ge i j with h | h
          · exact HQ.out i h
          · obtain rfl : i = j := by omega
            rw [HBB.out]; exact hq
        clear hq
        go_wp2_with fail
        go_quiet ((go_at_call 47; exact Calls.quiet_of_same (HFB.out _)))
        generalize hW : World.drewN wr _ = W4
        have hC4 : CO w W4 g s m (r.drop j) := hW ▸ ⟨HC.out.1.drew _, gr_tr HC.out.2 (gr_dr _ _ _)⟩
        have HC4 := Lib.hid hC4
        clear c0 c1 f0 f1 hW hC4
        obtain ⟨c0, c1, f0, f1⟩ := HC4.out.1.cells
        go_wp2_with fail
        go_roundw
        case rel =>
          have h9 := HC4.out.1.set 1 (by rw [List.length_drop]; omega)
          rw [List.drop_drop] at h9
          exact ⟨j + 1, m + 1, hjr, Lib.hid (by rw [HM.out]; omega), Lib.hid ⟨h9, gr_tr HC4.out.2 (gr_set _ _ _ _)⟩, HQ2⟩
        case measure =>
          have h9 := HC4.out.1.set 1 (by rw [List.length_drop]; omega)
          have h8 := h9.pos
          have h7 := HP.out
          first
            | (rw [h7]; simp only [h8]; omega)
            | (rw [h7]; erw [h8]; omega)
    · obtain rfl : m = s.size := by omega
      have HL : Hid ((r.takeWhile q).length = j) := Lib.hid (tw_len hj HQ.out (fun h => by have := HM.out; omega))
      go_wp2_with fail
      go_quiet (fail)
      go_wp2_with fail
      go_quiet (fail)
      go_wp2_with fail
      go_ret
      have h9 := HEXIT.out HL.out
      first
        | exact h9 _ _
        | (simpa using h9 _ _)
set_option maxRecDepth 100000 in
set_option maxHeartbeats 8000000 in
theorem runQuotable_any {w : World} {g p : Nat} {s : ByteArray} {r : Wd} (h : Cur w g s p r) :
    Calls Tryd.prog 45 #[.pointer (some ⟨g, 0, none⟩), .func (.func 24) #[] #[]] w (RunOut w g s p r txtB) := by
  obtain ⟨c0, c1, f0, f1⟩ := h.cells
  have hs9 := h.sz
  unfold maxLen at hs9
  have hf : Byt 24 txtB := isQuotable_any
  obtain ⟨q, hqq⟩ : ∃ q, txtB = q := ⟨_, rfl⟩
  rw [hqq] at hf ⊢
  have HF := Lib.hid hf
  have H0 := Lib.hid h
  have hpl := h.len
  clear hf h hqq
  go_enter Tryd.func45, Tryd.ntmps45
  go_wp2_with fail
  clear c0 c1 f0 f1
  go_loopw [] (fun wr => ∃ j m : Nat, j ≤ r.length ∧ Hid (m = p + j) ∧ Hid (CO w wr g s m (r.drop j)) ∧ Hid (∀ i, i < j → q (r.getD i 0) = true)) (fun wr => s.size - posOf wr g)
  case atStart => exact ⟨0, p, Nat.zero_le _, Lib.hid rfl, Lib.hid ⟨H0.out, gr_re _ _⟩, Lib.hid fun i hi => absurd hi (Nat.not_lt_zero i)⟩
  case round =>
    obtain ⟨j, m, hj, HM, HC, HQ⟩ := hrel
    obtain ⟨c0, c1, f0, f1⟩ := HC.out.1.cells
    have HP := Lib.hid HC.out.1.pos
    have hp0 : (0 : Int) ≤ (m : Int) := by omega
    have hmd : m ≤ s.size := by have := HM.out; omega
    have hpm : (p : Int) ≤ (m : Int) := by have := HM.out; omega
    have hms : (m : Int) ≤ (s.size : Int) := by omega
    have hpp : (0 : Int) ≤ (p : Int) := by omega
    have hpm' : p ≤ m := by omega
    have HEXIT : Hid ((r.takeWhile q).length = j → ∀ n n2, RunOut w g s p r q (.returned (.string (s.extract p m))) ((wr.drewN n).drewN n2)) := Lib.hid fun h n n2 => by
      obtain ⟨h1, h2⟩ := tw_split q r
      rw [h] at h1 h2
      refine ⟨_, rfl, ?_, ?_, ?_⟩
      · rw [ext_list s p m hmd, H0.out.rst, h1, HM.out]
        congr 1; omega
      · rw [ByteArray.size_extract]; have := H0.out.sz; omega
      · rw [h, h2, ← HM.out]
        exact ⟨(HC.out.1.drew n).drew n2, gr_tr HC.out.2 (gr_tr (gr_dr _ _ n) (gr_dr _ _ n2))⟩
    by_cases hlt : m < s.size
    · obtain ⟨hjr, hbe⟩ := rest_at H0.out.rst HM.out hlt
      have hlt' : (m : Int) < (s.size : Int) := by omega
      obtain ⟨b, hb⟩ : ∃ b, s[m] = b := ⟨_, rfl⟩
      have HBB := Lib.hid (hbe.trans hb)
      have HFB := Lib.hid (fun W => HF.out b W)
      clear hbe
      cases hq : q b
      · rw [hq] at HFB
        have HL : Hid ((r.takeWhile q).length = j) := Lib.hid (tw_len hj HQ.out (fun h => by rw [HBB.out]; exact hq))
        clear hq
        go_wp2_with fail
        go_quiet ((go_at_call 24; exact Calls.quiet_of_same (HFB.out _)))
        go_wp2_with fail
        go_quiet (fail)
        go_wp2_with fail
        go_ret
        have h9 := HEXIT.out HL.out
        first
          | exact h9 _ _
          | (simpa using h9 _ _)
      · rw [hq] at HFB
        have HQ2 : Hid (∀ i, i < j + 1 → q (r.getD i 0) = true) := Lib.hid fun i hi => by
          rcases Nat.lt_or_ge i j with h | h
          · exact HQ.out i h
          · obtain rfl : i = j := by omega
            rw [HBB.out]; exact hq
        clear hq
        go_wp2_with fail
        go_quiet ((go_at_call 24; exact Calls.quiet_of_same (HFB.out _)))
        generalize hW : World.drewN wr _ = W4
        have hC4 : CO w W4 g s m (r.drop j) := hW ▸ ⟨HC.out.1.drew _, gr_tr HC.out.2 (gr_dr _ _ _)⟩
        have HC4 := Lib.hid hC4
        clear c0 c1 f0 f1 hW hC4
        obtain ⟨c0, c1, f0, f1⟩ := HC4.out.1.cells
        go_wp2_with fail
        go_roundw
        case rel =>
          have h9 := HC4.out.1.set 1 (by rw [List.length_drop]; omega)
          rw [List.drop_drop] at h9
          exact ⟨j + 1, m + 1, hjr, Lib.hid (by rw [HM.out]; omega), Lib.hid ⟨h9, gr_tr HC4.out.2 (gr_set _ _ _ _)⟩, HQ2⟩
        case measure =>
          have h9 := HC4.out.1.set 1 (by rw [List.length_drop]; omega)
          have h8 := h9.pos
          have h7 := HP.out
          first
            | (rw [h7]; simp only [h8]; omega)
            | (rw [h7]; erw [h8]; omega)
    · obtain rfl : m = s.size := by omega
      have HL : Hid ((r.takeWhile q).length = j) := Lib.hid (tw_len hj HQ.out (fun h => by have := HM.out; omega))
      go_wp2_with fail
      go_quiet (fail)
      go_wp2_with fail
      go_quiet (fail)
      go_wp2_with fail
      go_ret
      have h9 := HEXIT.out HL.out
      first
        | exact h9 _ _
        | (simpa using h9 _ _)
end Go.Proofs.YtkdimbpmgngajaaDoor.Lx
