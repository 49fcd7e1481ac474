/- Walks: the cycles of a period in the reference; what both answer where there are none. -/
import Derived.Test.YtigohhliblgdhaaDoorCycles
namespace Go.Proofs.YtigohhliblgdhaaDoor
open Go.RowKit

theorem okP_no {f t : Int} (h : okP f t = false) : f < 0 ∨ (¬ f < 0 ∧ t ≤ f) ∨ (¬ f < 0 ∧ ¬ t ≤ f ∧ 12622780800 < t) := by
  have : ¬ (0 ≤ f ∧ f < t ∧ t ≤ 12622780800) := fun h2 => by rw [okP_iff.2 h2] at h; cases h
  omega
set_option maxHeartbeats 1000000 in
theorem refPValid_any (f t : Int) (w : World) : Calls Tryd.prog 42 #[.agg #[.int .i64 f, .int .i64 t]] w fun e w' => e = .returned (.bool (okP f t)) ∧ Below w.heap.size w w' := by
  obtain ⟨p, hp⟩ : ∃ p, decide (0 ≤ f) = p := ⟨_, rfl⟩
  obtain ⟨q, hq⟩ : ∃ q, decide (f < t) = q := ⟨_, rfl⟩
  obtain ⟨r, hr⟩ : ∃ r, decide (t ≤ 12622780800) = r := ⟨_, rfl⟩
  have he : okP f t = (p && q && r) := by unfold okP; rw [hp, hq, hr]
  rw [he]; clear he
  cases p <;> cases q <;> cases r
  all_goals
    go_enter Tryd.func42, Tryd.ntmps42
    go_wp2
    go_ret
    exact ⟨rfl, (Below.refl _ _).alloc (Nat.le_refl _) _⟩
theorem refPValid_is (f t : Int) (b : Bool) (h : okP f t = b) (w : World) : Calls Tryd.prog 42 #[.agg #[.int .i64 f, .int .i64 t]] w fun e w' => e = .returned (.bool b) ∧ Below w.heap.size w w' := by
  subst h; exact refPValid_any f t w
set_option maxHeartbeats 2000000 in
theorem cycles_out (a f t : Int) (w : World) (h : okA a = false ∨ (okA a = true ∧ okP f t = false)) :
    Calls Tryd.prog 24 #[.int .i64 a, .agg #[.int .i64 f, .int .i64 t]] w fun e w' => e = .returned (.slice none 0 0) ∧ Below w.heap.size w w' := by
  rcases h with h | ⟨h, h2⟩
  · have H0 := Lib.hid (fun w => anchor_no a w (okA_no h))
    clear h
    go_enter Tryd.func24, Tryd.ntmps24
    go_wp2_with (go_at_call 38; refine (H0.out _).mono ?_; rintro e w0 ⟨rfl, rfl⟩)
    go_ret
    exact ⟨rfl, (Below.refl _ _).alloc (Nat.le_refl _) _⟩
  · obtain ⟨ha, ha2⟩ := okA_iff.1 h
    have H0 := Lib.hid (fun w => anchor_yes a w ha ha2)
    clear h
    rcases okP_no h2 with h3 | ⟨h3, h4⟩ | ⟨h3, h4, h5⟩
    · have d1 : decide (f < 0) = true := decide_eq_true h3
      clear h2
      go_enter Tryd.func24, Tryd.ntmps24
      go_wp2_with (go_at_call 38; refine (H0.out _).mono ?_; rintro e w0 ⟨rfl, rfl⟩)
      go_ret
      exact ⟨rfl, (Below.refl _ _).alloc (Nat.le_refl _) _⟩
    · have d1 : decide (f < 0) = false := decide_eq_false h3
      have d2 : decide (t ≤ f) = true := decide_eq_true h4
      clear h2
      go_enter Tryd.func24, Tryd.ntmps24
      go_wp2_with (go_at_call 38; refine (H0.out _).mono ?_; rintro e w0 ⟨rfl, rfl⟩)
      go_ret
      exact ⟨rfl, (Below.refl _ _).alloc (Nat.le_refl _) _⟩
    · have d1 : decide (f < 0) = false := decide_eq_false h3
      have d2 : decide (t ≤ f) = false := decide_eq_false h4
      have d3 : decide (12622780800 < t) = true := decide_eq_true h5
      clear h2
      go_enter Tryd.func24, Tryd.ntmps24
      go_wp2_with (go_at_call 38; refine (H0.out _).mono ?_; rintro e w0 ⟨rfl, rfl⟩)
      go_ret
      exact ⟨rfl, (Below.refl _ _).alloc (Nat.le_refl _) _⟩
set_option maxHeartbeats 2000000 in
theorem refCycles_out (a f t : Int) (w : World) (h : okA a = false ∨ (okA a = true ∧ okP f t = false)) :
    Calls Tryd.prog 25 #[.int .i64 a, .agg #[.int .i64 f, .int .i64 t]] w fun e w' => e = .returned (.slice none 0 0) ∧ Below w.heap.size w w' := by
  have HB := Lib.hid (Blk.new w 37 #[.int .i64 f, .int .i64 t])
  rcases h with h | ⟨h, h2⟩
  · rcases okA_no h with h3 | h3
    · clear h
      go_enter Tryd.func25, Tryd.ntmps25
      go_wp2
      go_ret
      exact ⟨rfl, (Below.refl _ _).alloc (Nat.le_refl _) _⟩
    · have h4 : ¬ a < 1 := by omega
      clear h
      go_enter Tryd.func25, Tryd.ntmps25
      go_wp2
      go_ret
      exact ⟨rfl, (Below.refl _ _).alloc (Nat.le_refl _) _⟩
  · obtain ⟨ha, ha2⟩ := okA_iff.1 h
    have h4 : ¬ a < 1 := by omega
    have h5 : ¬ 28 < a := by omega
    have H0 := Lib.hid (fun w => refPValid_is f t false h2 w)
    clear h h2
    go_enter Tryd.func25, Tryd.ntmps25
    go_wp2_with (go_at_call 42; refine (H0.out _).mono ?_; rintro e w0 ⟨rfl, hb0⟩)
    go_ret
    exact ⟨rfl, ((Below.refl _ _).alloc (Nat.le_refl _) _).trans (hb0.mono (by simp))⟩
end Go.Proofs.YtigohhliblgdhaaDoor
