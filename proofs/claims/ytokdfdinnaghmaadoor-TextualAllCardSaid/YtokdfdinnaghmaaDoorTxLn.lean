/- Walks: Lines of both sides. -/
import Derived.Test.YtokdfdinnaghmaaDoorTxVl
namespace Go.Proofs.YtokdfdinnaghmaaDoor.Tx
open Go Go.Lib Go.RowKit

/-- Whether a text is whole lines. -/
def okL (l : Wd) : Bool := decide (l = []) || decide (l.getLast? = some 10)
def LinesOut (l : Wd) (w : World) (e : Ending) (w' : World) : Prop :=
  (okL l = false → e = .returned (.tuple #[.slice none 0 0, .int .i64 1])) ∧
  (okL l = true → 4097 < (spl 10 l).length → e = .returned (.tuple #[.slice none 0 0, .int .i64 5])) ∧
  (okL l = true → (spl 10 l).length ≤ 4097 → ∃ v ls, e = .returned (.tuple #[v, .int .i64 0]) ∧ byt ls = (spl 10 l).dropLast ∧ (∀ s ∈ ls, s.size ≤ maxLen) ∧ w'.ownsRow w.heap.size 9 1 v ls.length (ls.map Value.string)) ∧ Below w.heap.size w w'
theorem last_at {s : ByteArray} (h : 0 < s.size) : s.data.toList.getLast? = some (s[s.size - 1]'(by omega)) := by
  have hl : s.data.toList.length = s.size := by simp
  rw [List.getLast?_eq_getElem?, hl, List.getElem?_eq_getElem (by omega)]
  rfl
theorem okL_at {s : ByteArray} (h : 0 < s.size) : okL s.data.toList = decide (s[s.size - 1]'(by omega) = 10) := by
  unfold okL
  rw [last_at h]
  have hn : s.data.toList ≠ [] := fun e => by rw [by_nil] at e; omega
  simp [hn]
theorem own_prefix {w : World} {base : Nat} {g cap n m : Nat} {e : TypeId} {xs : List Value} (h : w.ownsRow base e 1 (.slice (some ⟨g, 0, none⟩) n cap) n xs) (hm : m ≤ n) : w.ownsRow base e 1 (.slice (some ⟨g, 0, none⟩) m cap) m (xs.take m) := by
  obtain ⟨h1, h2⟩ := h
  rcases h2 with ⟨h2, _⟩ | ⟨g', cap', cur, hv, hg, hh, hn, hcap, hsz, htake⟩
  · cases h2
  · cases hv
    refine ⟨by rw [List.length_take]; omega, .inr ⟨g, cap, cur, rfl, hg, hh, by omega, hcap, hsz, ?_⟩⟩
    rw [← htake, List.take_take, Nat.mul_one, Nat.mul_one, Nat.min_eq_left hm]
theorem own_slice {w : World} {base : Nat} {e : TypeId} {size : Nat} {v : Value} {n : Nat} {xs : List Value} (h : w.ownsRow base e size v n xs) : ∃ p c, v = .slice p n c := by
  rcases h.2 with ⟨h2, h3⟩ | ⟨g, cap, cur, hv, _⟩
  · subst h3; exact ⟨_, _, h2⟩
  · exact ⟨_, _, hv⟩
theorem spl_len_pos (c : UInt8) (l : Wd) : 1 ≤ (spl c l).length := splA_pos _ _
set_option maxRecDepth 100000 in
set_option maxHeartbeats 8000000 in
theorem refLines_any (s : ByteArray) (w : World) (hs : s.size ≤ 1000000000000) : Calls Tryd.prog 15 #[.string s] w (LinesOut s.data.toList w) := by
  obtain ⟨i0, hi0, hz0, hz1, hz2⟩ := info_parts strInfo
  have HSM : Hid (s.size ≤ maxLen) := Lib.hid (by unfold maxLen; omega)
  by_cases h0 : s.size = 0
  · obtain rfl : s = ByteArray.empty := by simpa using h0
    clear hi0 hz0 hz1 hz2 HSM
    go_enter Tryd.func15, Tryd.ntmps15
    go_wp2_with fail
    go_loopw [4, 6] (fun v iv wr => wr = w ∧ v = .slice none 0 0 ∧ iv = .int .i64 0) (fun _ _ _ => 0)
    case atStart => exact ⟨rfl, rfl, rfl⟩
    case round =>
      obtain ⟨rfl, rfl, rfl⟩ := hrel
      go_wp2
      go_ret2
      exact ⟨fun h => (by cases h), fun _ h => absurd h (by decide), fun _ _ => ⟨_, [], rfl, rfl, fun x hx => (by cases hx), World.ownsRow_nil _ _ _ _⟩, Below.refl _ _⟩
  have hE := ne_empty h0
  have hp : 0 < s.size := by omega
  have hz : (0 : Int) ≤ (s.size : Int) - 1 := by omega
  have hlz : (s.size : Int) - 1 < (s.size : Int) := by omega
  have HOK := Lib.hid (okL_at hp)
  by_cases hk : s[s.size - 1] = 10
  · have HOT : Hid (okL s.data.toList = true) := Lib.hid (by rw [HOK.out, hk]; rfl)
    have e1 : ((s[s.size - 1].toNat : Int) != 10) = false := by rw [hk]; rfl
    clear hk
    go_enter Tryd.func15, Tryd.ntmps15
    go_wp2_with fail
    go_loopw [4, 5, 6] (fun v fv iv wr => ∃ (pos fr : Nat) (P : List ByteArray) (u : Value), u = v ∧ fv = .int .i64 fr ∧ iv = .int .i64 pos ∧ P.length ≤ pos ∧ Hid (wr.ownsRow w.heap.size 9 1 u P.length (P.map Value.string)) ∧ Hid (Below w.heap.size w wr) ∧ Hid (∀ x ∈ P, x.size ≤ maxLen) ∧ fr ≤ pos ∧ pos ≤ s.size ∧ Hid (byt P ++ splA 10 (mid s.data.toList fr pos) (s.data.toList.drop pos) = spl 10 s.data.toList)) (fun _ _ iv _ => ((s.size : Int) - intOf iv).toNat)
    case atStart =>
      exact ⟨0, 0, [], _, rfl, rfl, rfl, Nat.le_refl _, Lib.hid (World.ownsRow_nil _ _ _ _), Lib.hid (Below.refl _ w), Lib.hid (fun x hx => by cases hx), Nat.le_refl _, by omega, Lib.hid (by rw [mid_self]; rfl)⟩
    case round =>
      obtain ⟨pos, fr, P, v, rfl, rfl, rfl, hPp, HO, HB, HZ, hfp, hps, HS⟩ := hrel
      have hbs : w.heap.size ≤ wr.heap.size := HB.out.size
      rcases Nat.lt_or_eq_of_le hps with hq | rfl
      · have l0 : decide ((pos : Int) < (s.size : Int)) = true := decide_eq_true (by omega)
        by_cases hc : s[pos] = 10
        · have HS2 := Lib.hid (HS.out.symm.trans (congrArg (byt P ++ ·) (spl_sep (a := fr) hq hc)))
          have e1 : ((s[pos].toNat : Int) == 10) = true := by rw [hc]; rfl
          clear hc
          go_wp2_with (first
          | (at_builtin; refine wpList_append_own_at _ rfl (.tmp 27) (.tmp 32) 32 rfl w.heap.size 9 i0 _ 1 16 Tryd.underlying32 hi0 hz0 hz1 hz2 rfl (by decide) _ _ (P.map Value.string) rfl (HO.out.alloc _) ⟨wr.heap.size, 0, none⟩ 1 1 [.string (s.extract fr pos)] rfl rfl (cell_one_new _ _ _) (fun u hu => by simp at hu; rw [hu]; rfl) (by unfold maxLen; omega) (by omega) (by simp; omega) ?_; intro v' w3 hown' hgrow3 hnil3 hat3
             have hbw3 : Below w.heap.size w w3 := Below.grown (HB.out.alloc (by omega) _) hgrow3 (by simp; omega) (fun j hj => (HO.out.lt _ hj).1)
             have X : Hid (w3.ownsRow w.heap.size 9 1 v' (P.length + 1) (P.map Value.string ++ [.string (s.extract fr pos)]) ∧ Below w.heap.size w w3) := Lib.hid ⟨hown', hbw3⟩
             clear hown' hgrow3 hnil3 hat3 hbw3))
          go_roundw
          case rel =>
            refine ⟨pos + 1, pos + 1, P ++ [s.extract fr pos], _, rfl, rfl, rfl, by rw [List.length_append, List.length_singleton]; omega, Lib.hid ?_, Lib.hid X.out.2, Lib.hid (snoc_sz HZ.out HSM.out), Nat.le_refl _, by omega, Lib.hid ?_⟩
            · rw [List.map_append, List.length_append]; exact X.out.1
            · rw [HS2.out, byt_snoc, List.append_assoc]; rfl
          case measure => simp [intOf]; omega
        · have HS2 := Lib.hid ((congrArg (byt P ++ ·) (spl_one (a := fr) hfp hq hc)).symm.trans HS.out)
          have e1 : ((s[pos].toNat : Int) == 10) = false := by
            rw [beq_eq_false_iff_ne]
            exact fun h => hc (UInt8.toNat.inj (by have h2 : (s[pos].toNat : Int) = ((10 : UInt8).toNat : Int) := h; omega))
          clear hc
          go_wp2_with fail
          go_roundw
          case rel => exact ⟨pos + 1, fr, P, _, rfl, rfl, rfl, by omega, HO, HB, HZ, by omega, by omega, HS2⟩
          case measure => simp [intOf]; omega
      · have HE := Lib.hid (fin_spl (a := fr) HS.out)
        have l0 : decide ((s.size : Int) < (s.size : Int)) = false := decide_eq_false (by omega)
        have hle : (spl 10 s.data.toList).length = P.length + 1 := by rw [← HE.out, List.length_append, List.length_singleton, byt_len]
        obtain ⟨p, c, rfl⟩ := own_slice HO.out
        have HLE := Lib.hid hle
        clear hle
        by_cases h4 : 4096 < P.length
        · have d4 : decide (4096 < (P.length : Int)) = true := decide_eq_true (by omega)
          go_wp2_with fail
          go_ret2
          exact ⟨fun h => (by rw [HOT.out] at h; cases h), fun _ _ => rfl, fun _ h => absurd h (by have := HLE.out; omega), HB.out⟩
        · have d4 : decide (4096 < (P.length : Int)) = false := decide_eq_false (by omega)
          go_wp2_with fail
          go_ret2
          exact ⟨fun h => (by rw [HOT.out] at h; cases h), fun _ h => absurd h (by have := HLE.out; omega), fun _ _ => ⟨_, P, rfl, by rw [← HE.out, List.dropLast_concat], HZ.out, HO.out⟩, HB.out⟩
  · have HOF : Hid (okL s.data.toList = false) := Lib.hid (by rw [HOK.out]; exact decide_eq_false hk)
    have e1 : ((s[s.size - 1].toNat : Int) != 10) = true := by
      rw [bne_iff_ne]
      exact fun h => hk (UInt8.toNat.inj (by have h2 : (s[s.size - 1].toNat : Int) = ((10 : UInt8).toNat : Int) := h; omega))
    clear hk
    go_enter Tryd.func15, Tryd.ntmps15
    go_wp2_with fail
    go_ret2
    exact ⟨fun _ => rfl, fun h => (by rw [HOF.out] at h; cases h), fun h => (by rw [HOF.out] at h; cases h), Below.refl _ _⟩
end Go.Proofs.YtokdfdinnaghmaaDoor.Tx
