/- Walks: the cursor's peek and run. -/
import Derived.Test.YtkdimbpmgngajaaDoorLxB
namespace Go.Proofs.YtkdimbpmgngajaaDoor.Lx
open Go Go.Lib Go.RowKit Go.Proofs.YtkdimbpmgngajaaDoor

theorem Cur.end_ {w : World} {g p : Nat} {s : ByteArray} (h : Cur w g s p []) : p = s.size := by have := h.len; simpa using this
set_option maxHeartbeats 4000000 in
theorem peek_any {w : World} {g p : Nat} {s : ByteArray} {r : Wd} (h : Cur w g s p r) :
    Calls Tryd.prog 35 #[.pointer (some ⟨g, 0, none⟩)] w fun e w' => e = .returned (.int .u8 (hdB r).toNat) ∧ ∃ n, w' = w.drewN n := by
  obtain ⟨c0, c1, f0, f1⟩ := h.cells
  have hs9 := h.sz
  unfold maxLen at hs9
  cases r with
  | nil =>
    obtain rfl := h.end_
    have d0 : ((s.size : Int) == (s.size : Int)) = true := by simp
    clear h
    go_enter Tryd.func35, Tryd.ntmps35
    go_wp2_with fail
    go_quiet (fail)
    go_wp2_with fail
    go_ret
    exact ⟨rfl, _, rfl⟩
  | cons b t =>
    obtain ⟨hp, hb⟩ := h.head
    have hp' : (p : Int) < (s.size : Int) := by omega
    have hp0 : (0 : Int) ≤ (p : Int) := by omega
    have d0 : ((p : Int) == (s.size : Int)) = false := by rw [beq_eq_false_iff_ne]; omega
    have HB := Lib.hid hb
    clear h hb
    go_enter Tryd.func35, Tryd.ntmps35
    go_wp2_with fail
    go_quiet (fail)
    go_wp2_with fail
    go_quiet (fail)
    go_wp2_with fail
    go_ret
    refine ⟨?_, by rw [World.drewN_drewN]; exact ⟨_, rfl⟩⟩
    show Ending.returned _ = Ending.returned (.int .u8 (b.toNat : Int))
    rw [← HB.out]; rfl
theorem tw_len {q : UInt8 → Bool} : ∀ {l : Wd} {j : Nat}, j ≤ l.length → (∀ i, i < j → q (l.getD i 0) = true) → (j < l.length → q (l.getD j 0) = false) → (l.takeWhile q).length = j
  | [], j, hj, _, _ => by simp at hj; subst hj; rfl
  | b :: l, 0, _, _, h => by
    have := h (by simp)
    rw [List.takeWhile_cons, if_neg (by simpa using this)]; rfl
  | b :: l, j + 1, hj, h1, h2 => by
    have h0 := h1 0 (by omega)
    rw [List.takeWhile_cons, if_pos (by simpa using h0), List.length_cons]
    congr 1
    refine tw_len (by simpa using hj) (fun i hij => ?_) (fun h => ?_)
    · have := h1 (i + 1) (by omega)
      simpa using this
    · have := h2 (by simpa using h)
      simpa using this
theorem tw_split (q : UInt8 → Bool) (l : Wd) : l.takeWhile q = l.take (l.takeWhile q).length ∧ l.dropWhile q = l.drop (l.takeWhile q).length := by
  have h := List.takeWhile_append_dropWhile (p := q) (l := l)
  have h1 := List.take_left (l₁ := l.takeWhile q) (l₂ := l.dropWhile q)
  have h2 := List.drop_left (l₁ := l.takeWhile q) (l₂ := l.dropWhile q)
  rw [h] at h1 h2
  exact ⟨h1.symm, h2.symm⟩
theorem ext_list (s : ByteArray) (i j : Nat) (hj : j ≤ s.size) : (s.extract i j).data.toList = (s.data.toList.drop i).take (j - i) := by
  rw [ByteArray.data_extract, Array.toList_extract]
theorem rest_at {s : ByteArray} {p : Nat} {r : Wd} (h : s.data.toList.drop p = r) {j m : Nat} (hm : m = p + j) (hj : m < s.size) : j < r.length ∧ r.getD j 0 = s[m] := by
  subst h
  subst hm
  have hl : j < (s.data.toList.drop p).length := by simp; omega
  refine ⟨hl, ?_⟩
  rw [List.getD_eq_getElem?_getD, List.getElem?_eq_getElem hl, List.getElem_drop]; rfl
def posOf (w : World) (g : Nat) : Nat := match w.cell? ⟨g, 1, none⟩ with
  | some (.int _ z) => z.toNat
  | _ => 0
theorem Cur.pos {w : World} {g p : Nat} {s : ByteArray} {r : Wd} (h : Cur w g s p r) : posOf w g = p := by
  unfold posOf; rw [h.cells.2.1]; rfl
def RunOut (w : World) (g : Nat) (s : ByteArray) (p : Nat) (r : Wd) (q : UInt8 → Bool) (e : Ending) (w' : World) : Prop :=
  ∃ x : ByteArray, e = .returned (.string x) ∧ x.data.toList = r.takeWhile q ∧ x.size ≤ maxLen ∧ CO w w' g s (p + (r.takeWhile q).length) (r.dropWhile q)
set_option maxRecDepth 100000 in
set_option maxHeartbeats 8000000 in
theorem run_any {w : World} {g p : Nat} {s : ByteArray} {r : Wd} (h : Cur w g s p r) :
    Calls Tryd.prog 45 #[.pointer (some ⟨g, 0, none⟩), .func (.func 46) #[] #[]] w (RunOut w g s p r blkB) := by
  obtain ⟨c0, c1, f0, f1⟩ := h.cells
  have hs9 := h.sz
  unfold maxLen at hs9
  have hf : Byt 46 blkB := isBlank_any
  obtain ⟨q, hqq⟩ : ∃ q, blkB = q := ⟨_, rfl⟩
  rw [hqq] at hf ⊢
  have HF := Lib.hid hf
  have H0 := Lib.hid h
  have hpl := h.len
  clear hf h hqq
  go_enter Tryd.func45, Tryd.ntmps45
  go_wp2_with fail
  clear c0 c1 f0 f1
  go_loopw [] (fun wr => ∃ j m : Nat, j ≤ r.length ∧ Hid (m = p + j) ∧ Hid (CO w wr g s m (r.drop j)) ∧ Hid (∀ i, i < j → q (r.getD i 0) = true)) (fun wr => s.size - posOf wr g)
  case atStart => exact ⟨0, p, Nat.zero_le _, Lib.hid rfl, Lib.hid ⟨H0.out, gr_re _ _⟩, Lib.hid fun i hi => absurd hi (Nat.not_lt_zero i)⟩
  case round =>
    obtain ⟨j, m, hj, HM, HC, HQ⟩ := hrel
    obtain ⟨c0, c1, f0, f1⟩ := HC.out.1.cells
    have HP := Lib.hid HC.out.1.pos
    have hp0 : (0 : Int) ≤ (m : Int) := by omega
    have hmd : m ≤ s.size := by have := HM.out; omega
    have hpm : (p : Int) ≤ (m : Int) := by have := HM.out; omega
    have hms : (m : Int) ≤ (s.size : Int) := by omega
    have hpp : (0 : Int) ≤ (p : Int) := by omega
    have hpm' : p ≤ m := by omega
    have HEXIT : Hid ((r.takeWhile q).length = j → ∀ n n2, RunOut w g s p r q (.returned (.string (s.extract p m))) ((wr.drewN n).drewN n2)) := Lib.hid fun h n n2 => by
      obtain ⟨h1, h2⟩ := tw_split q r
      rw [h] at h1 h2
      refine ⟨_, rfl, ?_, ?_, ?_⟩
      · rw [ext_list s p m hmd, H0.out.rst, h1, HM.out]
        congr 1; omega
      · rw [ByteArray.size_extract]; have := H0.out.sz; omega
      · rw [h, h2, ← HM.out]
        exact ⟨(HC.out.1.drew n).drew n2, gr_tr HC.out.2 (gr_tr (gr_dr _ _ n) (gr_dr _ _ n2))⟩
    by_cases hlt : m < s.size
    · obtain ⟨hjr, hbe⟩ := rest_at H0.out.rst HM.out hlt
      have hlt' : (m : Int) < (s.size : Int) := by omega
      obtain ⟨b, hb⟩ : ∃ b, s[m] = b := ⟨_, rfl⟩
      have HBB := Lib.hid (hbe.trans hb)
      have HFB := Lib.hid (fun W => HF.out b W)
      clear hbe
      cases hq : q b
      · rw [hq] at HFB
        have HL : Hid ((r.takeWhile q).length = j) := Lib.hid (tw_len hj HQ.out (fun h => by rw [HBB.out]; exact hq))
        clear hq
        go_wp2_with fail
        go_quiet ((go_at_call 46; exact Calls.quiet_of_same (HFB.out _)))
        go_wp2_with fail
        go_quiet (fail)
        go_wp2_with fail
        go_ret
        have h9 := HEXIT.out HL.out
        first
          | exact h9 _ _
          | (simpa using h9 _ _)
      · rw [hq] at HFB
        have HQ2 : Hid (∀ i, i < j + 1 → q (r.getD i 0) = true) := Lib.hid fun i hi => by
          rcases Nat.lt_or_ge i j with h | h
          · exact HQ.out i h
          · obtain rfl : i = j := by omega
            rw [HBB.out]; exact hq
        clear hq
        go_wp2_with fail
        go_quiet ((go_at_call 46; exact Calls.quiet_of_same (HFB.out _)))
        generalize hW : World.drewN wr _ = W4
        have hC4 : CO w W4 g s m (r.drop j) := hW ▸ ⟨HC.out.1.drew _, gr_tr HC.out.2 (gr_dr _ _ _)⟩
        have HC4 := Lib.hid hC4
        clear c0 c1 f0 f1 hW hC4
        obtain ⟨c0, c1, f0, f1⟩ := HC4.out.1.cells
        go_wp2_with fail
        go_roundw
        case rel =>
          have h9 := HC4.out.1.set 1 (by rw [List.length_drop]; omega)
          rw [List.drop_drop] at h9
          exact ⟨j + 1, m + 1, hjr, Lib.hid (by rw [HM.out]; omega), Lib.hid ⟨h9, gr_tr HC4.out.2 (gr_set _ _ _ _)⟩, HQ2⟩
        case measure =>
          have h9 := HC4.out.1.set 1 (by rw [List.length_drop]; omega)
          have h8 := h9.pos
          have h7 := HP.out
          first
            | (rw [h7]; simp only [h8]; omega)
            | (rw [h7]; erw [h8]; omega)
    · obtain rfl : m = s.size := by omega
      have HL : Hid ((r.takeWhile q).length = j) := Lib.hid (tw_len hj HQ.out (fun h => by have := HM.out; omega))
      go_wp2_with fail
      go_quiet (fail)
      go_wp2_with fail
      go_quiet (fail)
      go_wp2_with fail
      go_ret
      have h9 := HEXIT.out HL.out
      first
        | exact h9 _ _
        | (simpa using h9 _ _)
end Go.Proofs.YtkdimbpmgngajaaDoor.Lx
