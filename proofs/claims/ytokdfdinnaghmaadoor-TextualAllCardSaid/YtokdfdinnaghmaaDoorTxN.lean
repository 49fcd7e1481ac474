/- Walks: whether a word is a number word. -/
import Derived.Test.YtokdfdinnaghmaaDoorTxM
import Derived.Test.YtokdfdinnaghmaaDoorRows
import Derived.WalkKit
import Derived.Deep.QuietTactic
import Derived.BigQuiet
import Derived.Below
import Derived.Lib.Hide
import Derived.Laws.RangeString
import Derived.Laws.RangeAny
namespace Go.Proofs.YtokdfdinnaghmaaDoor.Tx
open Go Go.Lib Go.RowKit

theorem ret_b {a b : Bool} (h : a = b) : Ending.returned (.bool a) = .returned (.bool b) := by rw [h]
theorem below_it (w : World) (s : ByteArray) (k : Nat) : Below w.heap.size w (w.iter s k) := (Below.refl _ w).alloc (Nat.le_refl _) _
theorem ne_empty {s : ByteArray} (h : s.size ≠ 0) : s.toList.isEmpty = false := by
  obtain ⟨⟨l⟩⟩ := s
  cases l with
  | nil => exact absurd rfl h
  | cons c l => simp
theorem dec_hi (s : ByteArray) (p : Nat) (h : p < s.size) (ha : 128 ≤ (s[p]'h).toNat) : 57 < (Utf8.decode s p).1 := by
  have := Go.decode_high s p h ha
  omega
theorem bytes_eq {s : ByteArray} : (s.toList == [48]) = true ↔ s.size = 1 ∧ ∃ h : 0 < s.size, s[0] = 48 := by
  obtain ⟨⟨l⟩⟩ := s
  rw [beq_iff_eq, ByteArray.toList_eq]
  show l = [48] ↔ _
  cases l with
  | nil =>
    constructor
    · intro e; cases e
    · rintro ⟨e, -⟩; exact absurd e (by decide)
  | cons c l =>
    cases l with
    | nil =>
      constructor
      · intro e; cases e; exact ⟨rfl, Nat.one_pos, rfl⟩
      · rintro ⟨-, _, e⟩; rw [show c = 48 from e]
    | cons d l =>
      constructor
      · intro e; cases e
      · rintro ⟨e, -⟩; exact absurd e (by simp [ByteArray.size])
theorem nwd_empty : numW ByteArray.empty.data.toList = false := by simp [numW]
theorem nwd_long {s : ByteArray} (h : 15 < s.size) : numW s.data.toList = false := by
  unfold numW
  rw [show decide (s.data.toList.length ≤ 15) = false from decide_eq_false (by simpa using h)]
  simp
theorem nwd_zero {s : ByteArray} (h : 0 < s.size) (h0 : s[0] = 48) (hn : s.size ≠ 1) : numW s.data.toList = false := by
  unfold numW
  have : s.data.toList.head? = some 48 := by
    rw [List.head?_eq_getElem?, List.getElem?_eq_getElem (by simpa using h)]
    exact congrArg some h0
  have h2 : s.data.toList.length ≠ 1 := by simpa using hn
  rw [this, decide_eq_true h2]
  simp
theorem nwd_not {s : ByteArray} {k : Nat} (h : k < s.size) (hl : dgB s[k] = false) : numW s.data.toList = false := by
  unfold numW
  have : s.data.toList.all dgB = false := by
    rw [List.all_eq_false]
    exact ⟨s[k], by rw [show s[k] = s.data.toList[k]'(by simpa using h) from rfl]; exact List.getElem_mem _, by simp [hl]⟩
  rw [this, Bool.and_false]
theorem nwd_yes {s : ByteArray} (h0 : 0 < s.size) (h1 : s.size ≤ 15) (hz : s[0] = 48 → s.size = 1) (h : ∀ k (hk : k < s.size), dgB s[k] = true) : numW s.data.toList = true := by
  unfold numW
  have h3 : s.data.toList.all dgB = true := by
    rw [List.all_eq_true]
    intro x hx
    obtain ⟨k, hk, rfl⟩ := List.mem_iff_getElem.1 hx
    exact h k (by simpa using hk)
  rw [h3, Bool.and_true, Bool.and_eq_true, Bool.and_eq_true]
  refine ⟨⟨decide_eq_true (by simpa using Nat.succ_le_of_lt h0), decide_eq_true (by simpa using h1)⟩, ?_⟩
  rw [Bool.not_eq_true', Bool.and_eq_false_iff, decide_eq_false_iff_not, decide_eq_false_iff_not]
  by_cases hh : s[0] = 48
  · refine .inr fun hn => hn ?_
    simpa using hz hh
  · refine .inl fun e => hh ?_
    rw [List.head?_eq_getElem?, List.getElem?_eq_getElem (by simpa using h0)] at e
    exact Option.some.inj e
set_option maxHeartbeats 4000000 in
theorem isNumber_any (s : ByteArray) (w : World) (hs : s.size ≤ maxLen) : Calls Tryd.prog 49 #[.string s] w fun e w' => e = .returned (.bool (numW s.data.toList)) ∧ Below w.heap.size w w' := by
  unfold maxLen at hs
  by_cases h0 : s.size = 0
  · obtain rfl : s = ByteArray.empty := by simpa using h0
    rw [nwd_empty]
    go_enter Tryd.func49, Tryd.ntmps49
    go_wp2
    go_ret
    exact ⟨rfl, Below.refl _ _⟩
  · have hE := ne_empty h0
    have hp : 0 < s.size := by omega
    by_cases h15 : 15 < s.size
    · have d1 : decide (15 < (s.size : Int)) = true := decide_eq_true (by omega)
      rw [nwd_long h15]
      clear h15
      go_enter Tryd.func49, Tryd.ntmps49
      go_wp2
      go_ret
      exact ⟨rfl, Below.refl _ _⟩
    · have d1 : decide (15 < (s.size : Int)) = false := decide_eq_false (by omega)
      obtain ⟨c, hc⟩ : ∃ c : Int, (s[0].toNat : Int) = c := ⟨_, rfl⟩
      by_cases hz : s[0] = 48 ∧ s.size ≠ 1
      · have HN := Lib.hid (nwd_zero hp hz.1 hz.2)
        have hq : (!s.toList == [48]) = true := by
          rw [Bool.not_eq_true', Bool.eq_false_iff]
          exact fun e => hz.2 (bytes_eq.1 e).1
        obtain rfl : c = 48 := by rw [← hc, hz.1]; rfl
        clear hz h15
        go_enter Tryd.func49, Tryd.ntmps49
        go_wp2
        go_ret
        exact ⟨ret_b HN.out.symm, Below.refl _ _⟩
      · have HZ := Lib.hid (show s[0] = 48 → s.size = 1 from fun e => Classical.byContradiction fun h => hz ⟨e, h⟩)
        have hq : (c == 48) = false ∨ c = 48 ∧ (!s.toList == [48]) = false := by
          by_cases h : s[0] = 48
          · refine .inr ⟨by rw [← hc, h]; rfl, ?_⟩
            rw [Bool.not_eq_false']
            exact bytes_eq.2 ⟨HZ.out h, hp, h⟩
          · refine .inl (beq_eq_false_iff_ne.2 fun e => h ?_)
            apply UInt8.toNat_inj.1
            rw [show (48 : UInt8).toNat = 48 from rfl]
            omega
        have H15 := Lib.hid h15
        clear hz h15
        rcases hq with hq | ⟨rfl, hq⟩
        all_goals
          go_enter Tryd.func49, Tryd.ntmps49
          go_wp2
          clear hc d1 hE hq
          go_loopw [] (fun w' => ∃ pos, w' = w.iter s pos ∧ pos ≤ s.size ∧ Hid (∀ k (hk : k < s.size), k < pos → dgB s[k] = true)) (fun w' => s.size - w'.iterPos w.heap.size)
          case atStart => exact ⟨0, rfl, by omega, Lib.hid fun k _ h => absurd h (Nat.not_lt_zero k)⟩
          case round =>
            obtain ⟨pos, rfl, hps, HA⟩ := hrel
            by_cases hlt : pos < s.size
            · obtain ⟨r, np, hnx, hr⟩ : ∃ (r : Int) (np : Nat), (∀ ty, (Instr.next (.pointer (some ⟨w.heap.size, 0, none⟩)) true ty).run Tryd.prog (w.iter s pos) = .ok (.tuple #[.bool true, .int .i64 pos, .int .i32 r]) (w.iter s np)) ∧
                  ((dgB s[pos] = true ∧ np = pos + 1 ∧ decide (r < 48) = false ∧ decide (57 < r) = false) ∨ (dgB s[pos] = false ∧ (r < 48 ∨ 57 < r))) := by
                by_cases ha : s[pos].toNat < 128
                · refine ⟨_, _, fun ty => run_next_ascii w s pos ty hlt ha, ?_⟩
                  cases hc : dgB s[pos]
                  · refine .inr ⟨rfl, ?_⟩
                    unfold dgB at hc
                    simp at hc
                    omega
                  · refine .inl ⟨rfl, rfl, ?_⟩
                    unfold dgB at hc
                    simp at hc
                    exact ⟨decide_eq_false (by omega), decide_eq_false (by omega)⟩
                · have hd := dec_hi s pos hlt (by omega)
                  refine ⟨_, _, fun ty => run_next_any w s pos ty hlt, .inr ⟨?_, .inr (Int.ofNat_lt.2 hd)⟩⟩
                  unfold dgB
                  simp; omega
              rcases hr with ⟨hc, rfl, h48, h57⟩ | ⟨hc, hr⟩
              · have HA2 : Hid (∀ k (hk : k < s.size), k < pos + 1 → dgB s[k] = true) := Lib.hid fun k hk h => by
                  rcases Nat.lt_or_ge k pos with h | h
                  · exact HA.out k hk h
                  · obtain rfl : k = pos := by omega
                    exact hc
                clear hc HA
                go_wp2
                go_roundw
                case rel => exact ⟨pos + 1, rfl, by omega, HA2⟩
                case measure => simp; omega
              · have HN := Lib.hid (nwd_not hlt hc)
                clear hc HA
                rcases hr with hr | hr
                · have d48 : decide (r < 48) = true := decide_eq_true hr
                  clear hr
                  go_wp2
                  go_ret
                  exact ⟨ret_b HN.out.symm, below_it _ _ _⟩
                · have d48 : decide (r < 48) = false := decide_eq_false (by omega)
                  have d57 : decide (57 < r) = true := decide_eq_true hr
                  clear hr
                  go_wp2
                  go_ret
                  exact ⟨ret_b HN.out.symm, below_it _ _ _⟩
            · have hnx : ∀ ty, (Instr.next (.pointer (some ⟨w.heap.size, 0, none⟩)) true ty).run Tryd.prog (w.iter s pos) = _ := fun ty => run_next_end w s pos ty hlt
              have HY := Lib.hid (nwd_yes hp (by have := H15.out; omega) HZ.out fun k hk => HA.out k hk (by omega))
              clear HA
              go_wp2
              go_ret
              exact ⟨ret_b HY.out.symm, below_it _ _ _⟩
end Go.Proofs.YtokdfdinnaghmaaDoor.Tx
