/- Walks: whether a text is a name, in the program and in the reference. -/
import Derived.Test.YtpkmnefbofhjbaaGreatBdM
import Derived.Test.YtpkmnefbofhjbaaGreatRows
import Derived.Test.YtpkmnefbofhjbaaGreatIvV
import Derived.WalkKit
import Derived.Deep.QuietTactic
import Derived.BigQuiet
import Derived.Below
import Derived.Lib.Hide
import Derived.Laws.RangeString
import Derived.Laws.RangeAny
namespace Go.Proofs.YtpkmnefbofhjbaaGreat
open Go.RowKit

theorem isLetter_any (r : Int) (w : World) : Calls Tryz.prog 70 #[.int .i32 r] w fun e w' => e = .returned (.bool (decide (97 ≤ r) && decide (r ≤ 122))) ∧ w = w' := by
  cases h1 : decide (97 ≤ r) <;> cases h2 : decide (r ≤ 122)
  all_goals
    go_enter Tryz.func70, Tryz.ntmps70
    go_wp2
    go_ret
    exact ⟨rfl, rfl⟩
theorem nm_none {s : ByteArray} (h : s.size = 0 ∨ 24 < s.size) : nmOk s = false := by
  unfold nmOk
  rw [decide_eq_false (by omega)]; rfl
theorem nm_split {s : ByteArray} (h : 0 < s.size) : s.data.toList = s[0] :: s.data.toList.tail := by
  obtain ⟨⟨l⟩⟩ := s
  cases l with
  | nil => exact absurd h (by decide)
  | cons c l => rfl
theorem nm_head {s : ByteArray} (h : 0 < s.size) (hl : nmL s[0] = false) : nmOk s = false := by
  unfold nmOk
  have := nm_split h
  rw [this]
  simp [hl]
theorem nm_not {s : ByteArray} {k : Nat} (h : k < s.size) (hl : nmC s[k] = false) : nmOk s = false := by
  unfold nmOk
  have : s.data.toList.all nmC = false := by
    rw [List.all_eq_false]
    exact ⟨s[k], by rw [show s[k] = s.data.toList[k]'(by simpa using h) from rfl]; exact List.getElem_mem _, by simp [hl]⟩
  rw [this, Bool.and_false]
theorem nm_yes {s : ByteArray} (h0 : 0 < s.size) (h1 : s.size ≤ 24) (hl : nmL s[0] = true) (h : ∀ k (hk : k < s.size), nmC s[k] = true) : nmOk s = true := by
  unfold nmOk
  have h2 := nm_split h0
  have h3 : s.data.toList.all nmC = true := by
    rw [List.all_eq_true]
    intro x hx
    obtain ⟨k, hk, rfl⟩ := List.mem_iff_getElem.1 hx
    exact h k (by simpa using hk)
  rw [h3, Bool.and_true, Bool.and_eq_true]
  refine ⟨decide_eq_true (by omega), ?_⟩
  rw [h2]; exact hl
theorem letter_is (r : Int) (v : Bool) (h : (decide (97 ≤ r) && decide (r ≤ 122)) = v) (w : World) : Calls Tryz.prog 70 #[.int .i32 r] w fun e w' => e = .returned (.bool v) ∧ w = w' := by
  subst h; exact isLetter_any r w
theorem empty_not {s : ByteArray} (h : s.size ≠ 0) : s.toList.isEmpty = false := by
  obtain ⟨⟨l⟩⟩ := s
  cases l with
  | nil => exact absurd rfl h
  | cons c l => simp
theorem wrap32_u8 (c : UInt8) : wrap32 (c.toNat : Int) = (c.toNat : Int) := by
  have := c.toNat_lt
  unfold wrap32
  omega
theorem below_iter (w : World) (s : ByteArray) (k : Nat) : Below w.heap.size w (w.iter s k) := (Below.refl _ w).alloc (Nat.le_refl _) _
set_option maxHeartbeats 4000000 in
theorem nameValid_any (s : ByteArray) (w : World) (hs : s.size ≤ maxLen) : Calls Tryz.prog 30 #[.string s] w fun e w' => e = .returned (.bool (nmOk s)) ∧ Below w.heap.size w w' := by
  unfold maxLen at hs
  by_cases h0 : s.size = 0
  · obtain rfl : s = ByteArray.empty := by simpa using h0
    rw [nm_none (.inl rfl)]
    go_enter Tryz.func30, Tryz.ntmps30
    go_wp2
    go_ret
    exact ⟨rfl, Below.refl _ _⟩
  · have hE := empty_not h0
    have hp : 0 < s.size := by omega
    by_cases h24 : 24 < s.size
    · have d1 : decide (24 < (s.size : Int)) = true := decide_eq_true (by omega)
      rw [nm_none (.inr h24)]
      clear h24
      go_enter Tryz.func30, Tryz.ntmps30
      go_wp2
      go_ret
      exact ⟨rfl, Below.refl _ _⟩
    · have d1 : decide (24 < (s.size : Int)) = false := decide_eq_false (by omega)
      have hw := wrap32_u8 s[0]
      obtain ⟨c, hc⟩ : ∃ c : Int, (s[0].toNat : Int) = c := ⟨_, rfl⟩
      rw [hc] at hw
      cases hl : nmL s[0]
      · have HN := Lib.hid (nm_head hp hl)
        have HL := Lib.hid (letter_is c false (by unfold nmL at hl; rw [← hc]; simp at hl ⊢; omega))
        clear hl h24
        go_enter Tryz.func30, Tryz.ntmps30
        go_wp2_with (go_at_call 70; (with_reducible refine (HL.out _).mono ?_); rintro e w1 ⟨rfl, rfl⟩)
        go_ret
        exact ⟨ret_bool HN.out.symm, Below.refl _ _⟩
      · have HL := Lib.hid (letter_is c true (by unfold nmL at hl; rw [← hc]; simp at hl ⊢; omega))
        have HL0 := Lib.hid hl
        have H24 := Lib.hid h24
        clear hl h24
        go_enter Tryz.func30, Tryz.ntmps30
        go_wp2_with (go_at_call 70; (with_reducible refine (HL.out _).mono ?_); rintro e w1 ⟨rfl, rfl⟩)
        clear hc hw d1 hE HL
        go_loopw [] (fun w' => ∃ pos, w' = w.iter s pos ∧ pos ≤ s.size ∧ Hid (∀ k (hk : k < s.size), k < pos → nmC s[k] = true)) (fun w' => s.size - w'.iterPos w.heap.size)
        case atStart => exact ⟨0, rfl, by omega, Lib.hid fun k _ h => absurd h (Nat.not_lt_zero k)⟩
        case round =>
          obtain ⟨pos, rfl, hps, HA⟩ := hrel
          by_cases hlt : pos < s.size
          · obtain ⟨r, np, hnx, hr⟩ : ∃ (r : Int) (np : Nat), (∀ ty, (Instr.next (.pointer (some ⟨w.heap.size, 0, none⟩)) true ty).run Tryz.prog (w.iter s pos) = .ok (.tuple #[.bool true, .int .i64 pos, .int .i32 r]) (w.iter s np)) ∧
                ((nmC s[pos] = true ∧ np = pos + 1 ∧ r = (s[pos].toNat : Int)) ∨ (nmC s[pos] = false ∧ ((decide (97 ≤ r) && decide (r ≤ 122)) = false ∧ r ≠ 45 ∧ (r < 48 ∨ 57 < r)))) := by
              by_cases ha : s[pos].toNat < 128
              · refine ⟨_, _, fun ty => run_next_ascii w s pos ty hlt ha, ?_⟩
                cases hc : nmC s[pos]
                · refine .inr ⟨rfl, ?_⟩
                  unfold nmC at hc
                  simp at hc
                  refine ⟨by simp; omega, by omega, by omega⟩
                · exact .inl ⟨rfl, rfl, rfl⟩
              · have hd := decode_high s pos hlt (by omega)
                refine ⟨_, _, fun ty => run_next_any w s pos ty hlt, .inr ⟨?_, ?_⟩⟩
                · unfold nmC
                  simp; omega
                · refine ⟨by simp; omega, by omega, by omega⟩
            rcases hr with ⟨hc, rfl, hr⟩ | ⟨hc, hl, h45, hr⟩
            · have HA2 : Hid (∀ k (hk : k < s.size), k < pos + 1 → nmC s[k] = true) := Lib.hid fun k hk h => by
                rcases Nat.lt_or_ge k pos with h | h
                · exact HA.out k hk h
                · obtain rfl : k = pos := by omega
                  exact hc
              have hr3 : ((decide (97 ≤ r) && decide (r ≤ 122)) = true) ∨ ((decide (97 ≤ r) && decide (r ≤ 122)) = false ∧ r = 45) ∨ ((decide (97 ≤ r) && decide (r ≤ 122)) = false ∧ (r != 45) = true ∧ decide (r < 48) = false ∧ decide (57 < r) = false) := by
                unfold nmC at hc
                simp at hc ⊢
                omega
              clear hc hr HA
              rcases hr3 with hl | ⟨hl, rfl⟩ | ⟨hl, h45, h48, h57⟩
              · have HL := Lib.hid (letter_is r true hl)
                clear hl
                go_wp2_with (go_at_call 70; (with_reducible refine (HL.out _).mono ?_); rintro e w1 ⟨rfl, rfl⟩)
                go_roundw
                case rel => exact ⟨pos + 1, rfl, by omega, HA2⟩
                case measure => simp; omega
              · have HL := Lib.hid (letter_is 45 false rfl)
                clear hl
                go_wp2_with (go_at_call 70; (with_reducible refine (HL.out _).mono ?_); rintro e w1 ⟨rfl, rfl⟩)
                go_roundw
                case rel => exact ⟨pos + 1, rfl, by omega, HA2⟩
                case measure => simp; omega
              · have HL := Lib.hid (letter_is r false hl)
                clear hl
                go_wp2_with (go_at_call 70; (with_reducible refine (HL.out _).mono ?_); rintro e w1 ⟨rfl, rfl⟩)
                go_roundw
                case rel => exact ⟨pos + 1, rfl, by omega, HA2⟩
                case measure => simp; omega
            · have HN := Lib.hid (nm_not hlt hc)
              have HL := Lib.hid (letter_is r false hl)
              have hq : (r != 45) = true := by simp [h45]
              clear hl hc h45 HA
              rcases hr with hr | hr
              · have d48 : decide (r < 48) = true := decide_eq_true hr
                clear hr
                go_wp2_with (go_at_call 70; (with_reducible refine (HL.out _).mono ?_); rintro e w1 ⟨rfl, rfl⟩)
                go_ret
                exact ⟨ret_bool HN.out.symm, below_iter _ _ _⟩
              · have d48 : decide (r < 48) = false := decide_eq_false (by omega)
                have d57 : decide (57 < r) = true := decide_eq_true hr
                clear hr
                go_wp2_with (go_at_call 70; (with_reducible refine (HL.out _).mono ?_); rintro e w1 ⟨rfl, rfl⟩)
                go_ret
                exact ⟨ret_bool HN.out.symm, below_iter _ _ _⟩
          · have hnx : ∀ ty, (Instr.next (.pointer (some ⟨w.heap.size, 0, none⟩)) true ty).run Tryz.prog (w.iter s pos) = _ := fun ty => run_next_end w s pos ty hlt
            have HY := Lib.hid (nm_yes hp (by have := H24.out; omega) HL0.out fun k hk => HA.out k hk (by omega))
            clear HA
            go_wp2
            go_ret
            exact ⟨ret_bool HY.out.symm, below_iter _ _ _⟩
end Go.Proofs.YtpkmnefbofhjbaaGreat
