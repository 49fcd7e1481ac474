/- Walks: Unwrap of the reference. -/
import Derived.Test.YtfamghmoanfdgaaRows
import Derived.Test.YtfamghmoanfdgaaFrRW
import Derived.Test.YtfamghmoanfdgaaFrB
namespace Go.Proofs.Ytfamghmoanfdgaa
open Go.RowKit

set_option maxRecDepth 100000 in
set_option maxHeartbeats 4000000 in
theorem refUnwrap_err {A : Option Addr} {n c : Nat} {l : List Int} {w : World} (hA : Byt w A n c l) (hn : n ≤ 100000000) (her : (numR (l, 0)).2.2 ≠ 0) :
    Calls Try.prog 21 #[.slice A n c] w (UnwP l w) := by
  have hN := refNumber_any hA hn
  have hcr : (cutR l).2.2 = (numR (l, 0)).2.2 := by simp [cutR, her]
  unfold NumP at hN
  obtain ⟨⟨V, R, er⟩, hS⟩ : ∃ S, numR (l, 0) = S := ⟨_, rfl⟩
  rw [hS] at hN hcr her
  simp only at hN hcr her
  have hne : (er != 0) = true := by simp [her]
  have HN := Lib.hid hN; have HC := Lib.hid hcr; have HE := Lib.hid her
  clear hN hcr her hS hA hn
  go_enter Try.func21, Try.ntmps21
  go_wp2_with (go_at_call 29; refine HN.out.mono ?_; rintro e w1 ⟨v, rfl, ho, hb1⟩; have HO := Lib.hid ho; clear ho)
  go_ret3
  exact UnwP.no er HC.out HE.out rfl hb1
set_option maxRecDepth 100000 in
set_option maxHeartbeats 4000000 in
theorem refUnwrap_size {A : Option Addr} {n c : Nat} {l : List Int} {w : World} (hA : Byt w A n c l) (hn : n ≤ 100000000) (her : (numR (l, 0)).2.2 = 0) (hsz : (numR (l, 0)).1 < 0 ∨ 1048576 < (numR (l, 0)).1) :
    Calls Try.prog 21 #[.slice A n c] w (UnwP l w) := by
  have hN := refNumber_any hA hn
  have hcr : (cutR l).2.2 = if (numR (l, 0)).1 < 0 then 1 else 5 := by
    simp only [cutR, her, if_true]
    by_cases h : (numR (l, 0)).1 < 0
    · simp [h]
    · have : 1048576 < (numR (l, 0)).1 := by omega
      simp [h, this]
  unfold NumP at hN
  obtain ⟨⟨V, R, er⟩, hS⟩ : ∃ S, numR (l, 0) = S := ⟨_, rfl⟩
  rw [hS] at hN hcr her hsz
  simp only at hN hcr her hsz
  subst her
  have HN := Lib.hid hN
  clear hN hS hA hn
  by_cases hneg : V < 0
  · rw [if_pos hneg] at hcr
    have HC := Lib.hid hcr
    clear hcr hsz
    go_enter Try.func21, Try.ntmps21
    go_wp2_with (go_at_call 29; refine HN.out.mono ?_; rintro e w1 ⟨v, rfl, ho, hb1⟩; have HO := Lib.hid ho; clear ho)
    go_ret3
    exact UnwP.no 1 HC.out (by decide) rfl hb1
  · rw [if_neg hneg] at hcr
    have hbig : 1048576 < V := by omega
    have HC := Lib.hid hcr
    clear hcr hsz
    go_enter Try.func21, Try.ntmps21
    go_wp2_with (go_at_call 29; refine HN.out.mono ?_; rintro e w1 ⟨v, rfl, ho, hb1⟩; have HO := Lib.hid ho; clear ho)
    go_ret3
    exact UnwP.no 5 HC.out (by decide) rfl hb1
set_option maxRecDepth 100000 in
set_option maxHeartbeats 4000000 in
theorem refUnwrap_short {A : Option Addr} {n c sz : Nat} {l R : List Int} {w : World} (hA : Byt w A n c l) (hn : n ≤ 100000000) (hS : numR (l, 0) = ((sz : Int), (R, 0))) (hsz : sz ≤ 1048576) (hsh : R.length < 4 + sz) :
    Calls Try.prog 21 #[.slice A n c] w (UnwP l w) := by
  have hN := refNumber_any hA hn
  have hcr : (cutR l).2.2 = 2 := by
    have h1 : ¬ ((sz : Int) < 0) := by omega
    have h2 : ¬ (1048576 < (sz : Int)) := by omega
    have h3 : ((R.length : Nat) : Int) < 4 + (sz : Int) := by omega
    simp only [cutR, hS, if_true, h1, h2, h3, if_false]
  unfold NumP at hN
  rw [hS] at hN
  simp only at hN
  have hszi : (sz : Int) ≤ 1048576 := by omega
  have HN := Lib.hid hN; have HC := Lib.hid hcr; have HSH := Lib.hid hsh
  clear hN hcr hS hA hn hsh hsz
  go_enter Try.func21, Try.ntmps21
  go_wp2_with (go_at_call 29; refine HN.out.mono ?_; rintro e w1 ⟨v, rfl, ho, hb1⟩; obtain ⟨A2, m2, c2, rfl, hm2, y2⟩ := ho.bytm; have hlt : (m2 : Int) < 4 + (sz : Int) := (by have := hm2.out; have := HSH.out; omega); have HY := Lib.hid y2; clear ho y2)
  go_ret3
  exact UnwP.no 2 HC.out (by decide) rfl hb1

/-- Four bytes as a number, added up. -/
theorem add4 {a b c d : Int} (ha : 0 ≤ a ∧ a ≤ 255) (hb : 0 ≤ b ∧ b ≤ 255) (hc : 0 ≤ c ∧ c ≤ 255) (hd : 0 ≤ d ∧ d ≤ 255) :
    IntKind.u32.wrap (IntKind.u32.wrap (IntKind.u32.wrap (a * 16777216 + b * 65536) + c * 256) + d) = a * 16777216 + b * 65536 + c * 256 + d := by
  simp only [wrap_u32]; omega
/-- The world behind a literal of no elements. -/
theorem nil_world (w : World) : ∃ L, w.alloc (.cells #[] 5) = L ∧ Below w.heap.size w L ∧ L.ownsRow w.heap.size 5 1 (.slice (some ⟨w.heap.size, 0, none⟩) 0 0) 0 [] ∧ L.heap.size = w.heap.size + 1 :=
  ⟨_, rfl, below_lit w _, own_lit w _, by simp⟩
theorem own_of_nil {w : World} {base : Nat} {v : Value} {n : Nat} {l : List Int} (h : w.ownsRow base 5 1 v (0 + n) ([] ++ C8 l)) (hl : l.length = n) (hr : ∀ x ∈ l, 0 ≤ x ∧ x ≤ 255) : Own w base v l := by
  subst hl
  rw [Nat.zero_add, List.nil_append] at h
  exact ⟨h, hr⟩
end Go.Proofs.Ytfamghmoanfdgaa
