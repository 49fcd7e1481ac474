/- Walk: the reference's Words. -/
import Derived.Test.YtokdfdinnaghmaaDoorTxSp
namespace Go.Proofs.YtokdfdinnaghmaaDoor.Tx
open Go Go.Lib Go.RowKit

/-- A list of texts of the call. -/
def ListOut (ps : List Wd) (w : World) (e : Ending) (w' : World) : Prop := ∃ v l, e = .returned v ∧ byt l = ps ∧ (∀ s ∈ l, s.size ≤ maxLen) ∧ w'.ownsRow w.heap.size 9 1 v l.length (l.map Value.string) ∧ Below w.heap.size w w'
theorem snoc_sz {P : List ByteArray} {s : ByteArray} {a b : Nat} (h : ∀ x ∈ P, x.size ≤ maxLen) (hs : s.size ≤ maxLen) : ∀ x ∈ P ++ [s.extract a b], x.size ≤ maxLen := by
  intro x hx
  rcases List.mem_append.1 hx with hx | hx
  · exact h x hx
  · rw [List.mem_singleton.1 hx]; simp only [ByteArray.size_extract]; omega
theorem spl_one {c : UInt8} {s : ByteArray} {a p : Nat} (ha : a ≤ p) (hp : p < s.size) (hc : s[p] ≠ c) : splA c (mid s.data.toList a p) (s.data.toList.drop p) = splA c (mid s.data.toList a (p + 1)) (s.data.toList.drop (p + 1)) :=
  spl_over ha (Nat.le_succ p) fun x hx => by
    obtain ⟨j, hj, h1, h2, rfl⟩ := mid_mem (s := s) (by omega) hx
    obtain rfl : j = p := by omega
    exact hc
set_option maxRecDepth 100000 in
set_option maxHeartbeats 8000000 in
theorem words_any (s : ByteArray) (w : World) (hs : s.size ≤ 1000000000000) : Calls Tryd.prog 26 #[.string s] w (ListOut (spl 32 s.data.toList) w) := by
  obtain ⟨i0, hi0, hz0, hz1, hz2⟩ := info_parts strInfo
  have HSM : Hid (s.size ≤ maxLen) := Lib.hid (by unfold maxLen; omega)
  go_enter Tryd.func26, Tryd.ntmps26
  go_wp2_with fail
  go_loopw [3, 4, 5] (fun v fv iv wr => ∃ (pos fr : Nat) (P : List ByteArray) (u : Value), u = v ∧ fv = .int .i64 fr ∧ iv = .int .i64 pos ∧ P.length ≤ pos ∧ Hid (wr.ownsRow w.heap.size 9 1 u P.length (P.map Value.string)) ∧ Hid (Below w.heap.size w wr) ∧ Hid (∀ x ∈ P, x.size ≤ maxLen) ∧ (fr ≤ pos ∧ pos ≤ s.size ∧ Hid (byt P ++ splA 32 (mid s.data.toList fr pos) (s.data.toList.drop pos) = spl 32 s.data.toList) ∨ pos = s.size + 1 ∧ Hid (byt P = spl 32 s.data.toList))) (fun _ _ iv _ => ((s.size : Int) + 1 - intOf iv).toNat)
  case atStart =>
    exact ⟨0, 0, [], _, rfl, rfl, rfl, Nat.le_refl _, Lib.hid (World.ownsRow_nil _ _ _ _), Lib.hid (Below.refl _ w), Lib.hid (fun x hx => by cases hx), .inl ⟨Nat.le_refl _, by omega, Lib.hid (by rw [mid_self]; rfl)⟩⟩
  case round =>
    obtain ⟨pos, fr, P, v, rfl, rfl, rfl, hPp, HO, HB, HZ, hrel⟩ := hrel
    have hbs : w.heap.size ≤ wr.heap.size := HB.out.size
    rcases hrel with ⟨hfp, hps, HS⟩ | ⟨rfl, HS⟩
    · rcases Nat.lt_or_eq_of_le hps with hp | rfl
      · have e0 : ((pos : Int) == (s.size : Int)) = false := by rw [beq_eq_false_iff_ne]; omega
        have l0 : decide ((pos : Int) ≤ (s.size : Int)) = true := decide_eq_true (by omega)
        by_cases hc : s[pos] = 32
        · have HS2 := Lib.hid (HS.out.symm.trans (congrArg (byt P ++ ·) (spl_sep (a := fr) hp hc)))
          have e1 : ((s[pos].toNat : Int) == 32) = true := by rw [hc]; rfl
          clear hc
          go_wp2_with (first
          | (at_builtin; refine wpList_append_own_at _ rfl (.tmp 22) (.tmp 27) 32 rfl w.heap.size 9 i0 _ 1 16 Tryd.underlying32 hi0 hz0 hz1 hz2 rfl (by decide) _ _ (P.map Value.string) rfl (HO.out.alloc _) ⟨wr.heap.size, 0, none⟩ 1 1 [.string (s.extract fr pos)] rfl rfl (cell_one_new _ _ _) (fun u hu => by simp at hu; rw [hu]; rfl) (by unfold maxLen; omega) (by omega) (by simp; omega) ?_; intro v' w3 hown' hgrow3 hnil3 hat3
             have hbw3 : Below w.heap.size w w3 := Below.grown (HB.out.alloc (by omega) _) hgrow3 (by simp; omega) (fun j hj => (HO.out.lt _ hj).1)
             have X : Hid (w3.ownsRow w.heap.size 9 1 v' (P.length + 1) (P.map Value.string ++ [.string (s.extract fr pos)]) ∧ Below w.heap.size w w3) := Lib.hid ⟨hown', hbw3⟩
             clear hown' hgrow3 hnil3 hat3 hbw3))
          go_roundw
          case rel =>
            refine ⟨pos + 1, pos + 1, P ++ [s.extract fr pos], _, rfl, rfl, rfl, by rw [List.length_append, List.length_singleton]; omega, Lib.hid ?_, Lib.hid X.out.2, Lib.hid (snoc_sz HZ.out HSM.out), .inl ⟨Nat.le_refl _, by omega, Lib.hid ?_⟩⟩
            · rw [List.map_append, List.length_append]; exact X.out.1
            · rw [HS2.out, byt_snoc, List.append_assoc]; rfl
          case measure => simp [intOf]; omega
        · have HS2 := Lib.hid ((congrArg (byt P ++ ·) (spl_one (a := fr) hfp hp hc)).symm.trans HS.out)
          have e1 : ((s[pos].toNat : Int) == 32) = false := by
            rw [beq_eq_false_iff_ne]
            exact fun h => hc (UInt8.toNat.inj (by have h2 : (s[pos].toNat : Int) = ((32 : UInt8).toNat : Int) := h; omega))
          clear hc
          go_wp2_with fail
          go_roundw
          case rel => exact ⟨pos + 1, fr, P, _, rfl, rfl, rfl, by omega, HO, HB, HZ, .inl ⟨by omega, by omega, HS2⟩⟩
          case measure => simp [intOf]; omega
      · have HE := Lib.hid (fin_spl (a := fr) HS.out)
        have e0 : ((s.size : Int) == (s.size : Int)) = true := by simp
        go_wp2_with (first
          | (at_builtin; refine wpList_append_own_at _ rfl (.tmp 22) (.tmp 27) 32 rfl w.heap.size 9 i0 _ 1 16 Tryd.underlying32 hi0 hz0 hz1 hz2 rfl (by decide) _ _ (P.map Value.string) rfl (HO.out.alloc _) ⟨wr.heap.size, 0, none⟩ 1 1 [.string (s.extract fr s.size)] rfl rfl (cell_one_new _ _ _) (fun u hu => by simp at hu; rw [hu]; rfl) (by unfold maxLen; omega) (by omega) (by simp; omega) ?_; intro v' w3 hown' hgrow3 hnil3 hat3
             have hbw3 : Below w.heap.size w w3 := Below.grown (HB.out.alloc (by omega) _) hgrow3 (by simp; omega) (fun j hj => (HO.out.lt _ hj).1)
             have X : Hid (w3.ownsRow w.heap.size 9 1 v' (P.length + 1) (P.map Value.string ++ [.string (s.extract fr s.size)]) ∧ Below w.heap.size w w3) := Lib.hid ⟨hown', hbw3⟩
             clear hown' hgrow3 hnil3 hat3 hbw3))
        go_roundw
        case rel =>
          refine ⟨s.size + 1, s.size + 1, P ++ [s.extract fr s.size], _, rfl, rfl, rfl, by rw [List.length_append, List.length_singleton]; omega, Lib.hid ?_, Lib.hid X.out.2, Lib.hid (snoc_sz HZ.out HSM.out), .inr ⟨rfl, Lib.hid ?_⟩⟩
          · rw [List.map_append, List.length_append]; exact X.out.1
          · rw [byt_snoc]; exact HE.out
        case measure => simp [intOf]
    · have l0 : decide (((s.size : Nat) : Int) + 1 ≤ (s.size : Int)) = false := decide_eq_false (by omega)
      go_wp2_with fail
      go_ret
      exact ⟨_, P, rfl, HS.out, HZ.out, HO.out, HB.out⟩
end Go.Proofs.YtokdfdinnaghmaaDoor.Tx
