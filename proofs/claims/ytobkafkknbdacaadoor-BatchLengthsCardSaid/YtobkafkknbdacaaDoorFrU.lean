/- Walks: Unwrap, in the program. -/
import Derived.Test.YtobkafkknbdacaaDoorRows
import Derived.Test.YtobkafkknbdacaaDoorFrMM
namespace Go.Proofs.YtobkafkknbdacaaDoor
open Go.RowKit

theorem cutR_err {b : List Int} (h : (cutR b).2.2 ≠ 0) : (cutR b).1 = [] ∧ (cutR b).2.1 = [] := by
  unfold cutR at *
  split
  · rename_i h0
    rw [if_pos h0] at h
    split
    · exact ⟨rfl, rfl⟩
    · rename_i h1; rw [if_neg h1] at h
      split
      · exact ⟨rfl, rfl⟩
      · rename_i h2; rw [if_neg h2] at h
        split
        · exact ⟨rfl, rfl⟩
        · rename_i h3; rw [if_neg h3] at h
          split
          · rename_i h4; rw [if_pos h4] at h; exact absurd rfl h
          · exact ⟨rfl, rfl⟩
  · exact ⟨rfl, rfl⟩
/-- What Unwrap gives: the payload, the remaining bytes, the error. -/
def UnwP (l : List Int) (w : World) (e : Ending) (w' : World) : Prop :=
  ∃ v1 v2, e = .returned (.tuple #[v1, v2, .int .i64 (cutR l).2.2]) ∧ Own w' w.heap.size v1 (cutR l).1 ∧ Own w' w.heap.size v2 (cutR l).2.1 ∧ Below w.heap.size w w'
theorem UnwP.no {l : List Int} {w : World} {e : Ending} {w' : World} (er : Int) (h : (cutR l).2.2 = er) (hne : er ≠ 0) (he : e = .returned (.tuple #[.slice none 0 0, .slice none 0 0, .int .i64 er])) (hb : Below w.heap.size w w') : UnwP l w e w' := by
  obtain ⟨h1, h2⟩ := cutR_err (b := l) (by rw [h]; exact hne)
  exact ⟨_, _, by rw [h]; exact he, by rw [h1]; exact own_none _ _, by rw [h2]; exact own_none _ _, hb⟩
theorem UnwP.yes {l P R : List Int} {w : World} {e : Ending} {w' : World} {v1 v2 : Value} (h : cutR l = (P, (R, 0))) (he : e = .returned (.tuple #[v1, v2, .int .i64 0])) (h1 : Own w' w.heap.size v1 P) (h2 : Own w' w.heap.size v2 R) (hb : Below w.heap.size w w') : UnwP l w e w' :=
  ⟨v1, v2, by rw [h]; exact he, by rw [h]; exact h1, by rw [h]; exact h2, hb⟩

set_option maxRecDepth 100000 in
set_option maxHeartbeats 4000000 in
theorem unwrap_any {A : Option Addr} {n c : Nat} {l : List Int} {w : World} (hA : Byt w A n c l) (hn : n ≤ 1000000000) :
    Calls Tryd.prog 36 #[.slice A n c] w (UnwP l w) := by
  have hl := hA.len
  have hC := cut_any hA hn
  have hp1 := cutR_pay l
  have hp2 : (cutR l).2.1.length ≤ l.length := by
    by_cases h : (cutR l).2.2 = 0
    · exact Nat.le_of_lt (cutR_len h)
    · rw [(cutR_err h).2]; simp
  obtain ⟨⟨P, R, er⟩, hS⟩ : ∃ S, cutR l = S := ⟨_, rfl⟩
  unfold CutP at hC
  rw [hS] at hC hp1 hp2
  simp only at hC hp1 hp2
  have HC := Lib.hid hC; have HA := Lib.hid hA; have HS := Lib.hid hS
  have HP1 : Hid (P.length ≤ 1000000000) := Lib.hid (by omega)
  have HP2 : Hid (R.length ≤ 1000000000) := Lib.hid (by omega)
  clear hC hA hS hp1 hp2 hl hn
  by_cases her : er = 0
  · subst her
    go_enter Tryd.func36, Tryd.ntmps36
    go_wp2_with (first
      | (go_at_call 45; refine HC.out.mono ?_; rintro e w1 ⟨v1, v2, rfl, hy, -, hb1⟩; obtain ⟨A1, m1, d1, A2, m2, d2, rfl, rfl, hall⟩ := hy (by first | trivial | rfl); have HY := Lib.hid (hall w HA.out); have HB1 := Lib.hid hb1; have HD1 := Lib.hid (dup_any (HY.out.1.below hb1) (by have h1 := HY.out.1.len; have := HP1.out; omega)); clear hy hb1 hall)
      | (go_at_call 46; refine HD1.out.mono ?_; rintro e w2 ⟨v5, rfl, ho5, hb2⟩; have HO5 := Lib.hid ho5; have HB2 := Lib.hid (HB1.out.trans (hb2.mono HB1.out.size)); have HD2 := Lib.hid (dup_any (HY.out.2.below HB2.out) (by have h1 := HY.out.2.len; have := HP2.out; omega)); clear ho5 hb2 HD1)
      | (go_at_call 46; refine HD2.out.mono ?_; rintro e w3 ⟨v6, rfl, ho6, hb3⟩; have HO6 := Lib.hid ho6; have HB3 := Lib.hid hb3; clear ho6 hb3 HD2))
    go_ret3
    exact UnwP.yes HS.out rfl ((HO5.out.below HB3.out).mono HB1.out.size) (HO6.out.mono HB2.out.size) (HB2.out.trans (HB3.out.mono HB2.out.size))
  · have hne : (er != 0) = true := by simp [her]
    have HE := Lib.hid her
    clear her
    go_enter Tryd.func36, Tryd.ntmps36
    go_wp2_with (go_at_call 45; refine HC.out.mono ?_; rintro e w1 ⟨v1, v2, rfl, -, -, hb1⟩)
    go_ret3
    exact UnwP.no er (by rw [HS.out]) HE.out rfl hb1
end Go.Proofs.YtobkafkknbdacaaDoor
