/- Walks: within, amount.Valid, interval.Valid; Clone of bundles and of texts. -/
import Derived.Test.YthjckkcafhiomaaPdC
import Derived.Test.YthjckkcafhiomaaShelf
namespace Go.Proofs.Ythjckkcafhiomaa.Pd
open Go.RowKit

theorem within_any (a x y : Int) (w : World) : Calls Try.prog 34 #[.int .i64 a, .int .i64 x, .int .i64 y] w fun e w' => e = .returned (.bool (decide (x ≤ a) && decide (a ≤ y))) ∧ w = w' := by
  cases h1 : decide (x ≤ a) <;> cases h2 : decide (a ≤ y)
  all_goals
    go_enter Try.func34, Try.ntmps34
    go_wp2
    go_ret
    exact ⟨rfl, rfl⟩
theorem within_is (a x y : Int) (v : Bool) (h : (decide (x ≤ a) && decide (a ≤ y)) = v) (w : World) : Calls Try.prog 34 #[.int .i64 a, .int .i64 x, .int .i64 y] w fun e w' => e = .returned (.bool v) ∧ w = w' := by
  subst h; exact within_any a x y w
theorem amtValid_any (a : Int) (w : World) : Calls Try.prog 35 #[.int .i64 a] w fun e w' => e = .returned (.bool (decide (-1125899906842624 ≤ a) && decide (a ≤ 1125899906842624))) ∧ w = w' := by
  cases h1 : decide (-1125899906842624 ≤ a) <;> cases h2 : decide (a ≤ 1125899906842624)
  all_goals
    go_enter Try.func35, Try.ntmps35
    go_wp2
    go_ret
    exact ⟨rfl, rfl⟩
theorem amtValid_is (a : Int) (v : Bool) (h : (decide (-1125899906842624 ≤ a) && decide (a ≤ 1125899906842624)) = v) (w : World) : Calls Try.prog 35 #[.int .i64 a] w fun e w' => e = .returned (.bool v) ∧ w = w' := by
  subst h; exact amtValid_any a w
/-- Whether a period is valid. -/
def vl (a b : Int) : Bool := decide (0 ≤ a) && (decide (a < b) && decide (b ≤ 12622780800))
theorem valid_any (a b : Int) (w : World) : Calls Try.prog 31 #[.agg #[.int .i64 a, .int .i64 b]] w fun e w' => e = .returned (.bool (vl a b)) ∧ Below w.heap.size w w' := by
  have HB := Lib.hid (below_one w (.cells #[.int .i64 a, .int .i64 b] 38))
  unfold vl
  cases h1 : decide (0 ≤ a)
  · go_enter Try.func31, Try.ntmps31
    go_wp2
    go_ret
    exact ⟨rfl, HB.out⟩
  · cases h2 : decide (a < b)
    · go_enter Try.func31, Try.ntmps31
      go_wp2
      go_ret
      exact ⟨rfl, HB.out⟩
    · cases h3 : decide (b ≤ 12622780800)
      all_goals
        go_enter Try.func31, Try.ntmps31
        go_wp2
        go_ret
        exact ⟨rfl, HB.out⟩
theorem valid_is (a b : Int) (v : Bool) (h : vl a b = v) (w : World) : Calls Try.prog 31 #[.agg #[.int .i64 a, .int .i64 b]] w fun e w' => e = .returned (.bool v) ∧ Below w.heap.size w w' := by
  subst h; exact valid_any a b w

/-- The cells of a list of bundles. -/
def bsl (l : List Bn) : List Value := l.flatMap fun p => p.cells.toList
theorem bsl_len (l : List Bn) : (bsl l).length = l.length * 6 := by
  induction l with
  | nil => rfl
  | cons r l ih => rw [bsl, List.flatMap_cons, List.length_append]; rw [bsl] at ih; rw [ih]; simp [Bn.cells]; omega
theorem bsl_one (l : List Bn) : ∀ v ∈ bsl l, v.oneCell' = true := by
  intro v hv
  obtain ⟨r, _, h⟩ := List.mem_flatMap.1 hv
  simp [Bn.cells] at h
  rcases h with rfl | rfl | rfl | rfl | rfl | rfl <;> rfl
theorem bsl_at : ∀ {l : List Bn} {k : Nat}, k < l.length → ∀ i, i < 6 → (bsl l)[k * 6 + i]? = (l.getD k bn0).cells[i]?
  | [], k, h, _, _ => absurd h (Nat.not_lt_zero k)
  | r :: l, 0, _, i, hi => by
    rw [bsl, List.flatMap_cons, Nat.zero_mul, Nat.zero_add, List.getElem?_append_left (by simp [Bn.cells]; omega)]; simp
  | r :: l, k + 1, h, i, hi => by
    have := bsl_at (l := l) (k := k) (by simpa using h) i hi
    rw [bsl, List.flatMap_cons, List.getElem?_append_right (by simp [Bn.cells]; omega), show (k + 1) * 6 + i - r.cells.toList.length = k * 6 + i by simp [Bn.cells]; omega]
    rw [bsl] at this
    rw [this]; simp
theorem own_lit6 (w : World) (e : TypeId) : (w.alloc (.cells #[] e)).ownsRow w.heap.size e 6 (.slice (some ⟨w.heap.size, 0, none⟩) 0 0) 0 [] :=
  ⟨rfl, .inr ⟨w.heap.size, 0, #[], rfl, Nat.le_refl _, heap_alloc_new _ _, by omega, by decide, rfl, rfl⟩⟩
theorem bn_src {w : World} {b off : Nat} {l : List Bn} (h : BnR w (some ⟨b, off, none⟩) l) : ∀ j u, (bsl l)[j]? = some u → w.cell? ((⟨b, off, none⟩ : Addr).add j) = some u := fun j u hj => by
  have hlt : j < l.length * 6 := by rw [← bsl_len]; exact (List.getElem?_eq_some_iff.1 hj).1
  obtain ⟨b', off', he, _, h0, _⟩ := h (j / 6) (by omega)
  obtain ⟨rfl, rfl⟩ : b = b' ∧ off = off' := by injection he with h; injection h with h1 h2 h3; exact ⟨h1, h2⟩
  have ha := bsl_at (l := l) (k := j / 6) (by omega) (j % 6) (by omega)
  have h1 := h0 (j % 6) (by omega)
  rw [← ha, show j / 6 * 6 + j % 6 = j by omega, hj, show off + j / 6 * 6 + j % 6 = off + j by omega] at h1
  rw [add_none]
  exact h1
theorem bn_addr {w : World} {A : Option Addr} {l : List Bn} (h : BnR w A l) (hA : A ≠ none) : ∃ a, A = some a ∧ ∀ j u, (bsl l)[j]? = some u → w.cell? (a.add j) = some u := by
  cases l with
  | nil =>
    cases A with
    | none => exact absurd rfl hA
    | some a => exact ⟨a, rfl, fun j u hj => by simp [bsl] at hj⟩
  | cons r l =>
    obtain ⟨b, off, rfl, _⟩ := h 0 (by simp)
    exact ⟨_, rfl, bn_src h⟩
def BunOut (l : List Bn) (n : Nat) (w : World) (e : Ending) (w' : World) : Prop :=
  ∃ v', e = .returned v' ∧ w'.ownsRow w.heap.size 48 6 v' n (bsl l) ∧ Below w.heap.size w w'
set_option maxRecDepth 100000 in
set_option maxHeartbeats 4000000 in
theorem cloneB_any (A : Option Addr) (n c : Nat) (l : List Bn) (w : World) (hA : BnR w A l) (hn : l.length = n) (h0 : A = none → n = 0) (h6 : n ≤ 1000000) :
    Calls Try.prog 42 #[.slice A n c] w (BunOut l n w) := by
  obtain ⟨i0, hi0, hz0, hz1, hz2⟩ := info_parts bnInfo
  have hnil : ∀ (a : Option Addr), (binOp .eql 27 (.slice a n c) (.slice none 0 0)).run Try.prog w = .ok (.bool a.isNone) w := fun a => Lib.run_eql_slice_nil w 27 48 a n c 0 0 Try.underlying27
  cases A with
  | none =>
    have h0 := h0 rfl
    subst h0
    obtain rfl : l = [] := by simpa using hn
    clear hA
    go_enter Try.func42, Try.ntmps42
    go_wp2
    go_ret
    exact ⟨_, rfl, World.ownsRow_nil _ _ _ _, Below.refl _ _⟩
  | some a =>
    obtain ⟨a', ha', hsrc⟩ := bn_addr hA (by simp)
    obtain rfl : a = a' := by injection ha'
    have hnil1 := hnil (some a)
    rw [show (some a : Option Addr).isNone = false from rfl] at hnil1
    have HS := Lib.hid hsrc; have HN := Lib.hid hn
    have hb0 : Below w.heap.size w (w.alloc (.cells #[] 48)) := below_one _ _
    have HB0 := Lib.hid hb0
    have HOL := Lib.hid (own_lit6 w 48)
    have HSR : Hid (∀ j u, (bsl l)[j]? = some u → (w.alloc (.cells #[] 48)).cell? (a.add j) = some u) := Lib.hid fun j u hj => by
      have := HS.out j u hj
      exact (hb0.cell (by rw [show (a.add j).block = (a.add j).block from rfl]; exact cell_block_lt this)).trans this
    clear hA hsrc hn ha' hnil hb0 h0
    go_enter Try.func42, Try.ntmps42
    go_wp2_with (at_builtin; refine wpList_append_own _ rfl (.tmp 5) (.tmp 6) 27 rfl w.heap.size 48 i0 _ 6 64 Try.underlying27 hi0 hz0 hz1 hz2 rfl (by decide) _ 0 [] rfl HOL.out a n c (bsl l) rfl (by rw [bsl_len, HN.out]) HSR.out (bsl_one _) (by unfold maxLen; omega) (by omega) (by simp) ?_; intro v' w' g1 g2 _)
    go_ret
    refine ⟨v', rfl, by simpa using g1, below_grown HB0.out g2 (fun k hk => ?_) (by simp)⟩
    exact (World.ownsRow.lt HOL.out k hk).1
def TxtOut (l : List ByteArray) (n : Nat) (w : World) (e : Ending) (w' : World) : Prop :=
  ∃ v', e = .returned v' ∧ w'.ownsRow w.heap.size 9 1 v' n (l.map Value.string) ∧ Below w.heap.size w w'
theorem cloneZ_any (A : Option Addr) (n c : Nat) (l : List ByteArray) (w : World) (hA : ZsR w A l) (hn : l.length = n) (h0 : A = none → n = 0) (h6 : n ≤ 8796093021952) :
    Calls Try.prog 43 #[.slice A n c] w (TxtOut l n w) := by
  cases A with
  | none =>
    have h0 := h0 rfl
    subst h0
    obtain rfl : l = [] := by simpa using hn
    exact (Try.slices_Clone_string_nil 0 c w).mono fun e w' ⟨he, hw⟩ => ⟨_, he, by subst hw; exact World.ownsRow_nil _ _ _ _, by subst hw; exact Below.refl _ _⟩
  | some a =>
    by_cases hz : n = 0
    · subst hz
      obtain rfl : l = [] := by simpa using hn
      exact (Try.slices_Clone_string_zero a c w).mono fun e w' ⟨v', he, ho, _, hb⟩ => ⟨_, he, ho, hb⟩
    · obtain ⟨b, off, ha, _⟩ := hA 0 (by omega)
      obtain rfl : a = ⟨b, off, none⟩ := by simpa using ha
      refine (Try.slices_Clone_string b off n c l w (by omega) (by omega) fun j hj => ?_).mono fun e w' ⟨v', he, ho, _, hb⟩ => ⟨_, he, ?_, hb⟩
      · obtain ⟨b', off', he, _, h1, _⟩ := hA j hj
        obtain ⟨rfl, rfl⟩ : b = b' ∧ off = off' := by injection he with h; injection h with h1 h2 h3; exact ⟨h1, h2⟩
        exact h1
      · rw [List.take_of_length_le (by omega)] at ho
        exact ho
/-- A row of texts that the call owns, read. -/
theorem txt_own {w : World} {base n : Nat} {v : Value} {l : List ByteArray} (h : w.ownsRow base 9 1 v n (l.map Value.string)) (hn : l.length = n) (hs : ∀ s ∈ l, s.size ≤ maxLen) : ∃ A c, v = .slice A n c ∧ n ≤ c ∧ c ≤ maxLen ∧ ZsR w A l ∧ (A = none → n = 0) := by
  rcases h.2 with ⟨rfl, rfl⟩ | ⟨g, cap, cur, rfl, hb, hg, hnc, hcm, hcs, htake⟩
  · obtain rfl : l = [] := by simpa using hn
    exact ⟨none, 0, rfl, Nat.le_refl _, Nat.zero_le _, ZsR.nil, fun _ => rfl⟩
  · refine ⟨_, cap, rfl, hnc, hcm, fun k hk => ?_, (by simp)⟩
    have hlt : g < w.heap.size := (Array.getElem?_eq_some_iff.1 hg).1
    refine ⟨g, 0, rfl, hlt, ?_, ?_⟩
    · rw [World.ownsRow.cellAt h _ (by omega), List.getElem?_map, Nat.zero_add, List.getElem?_eq_getElem hk]
      simp [List.getD, List.getElem?_eq_getElem hk]
    · have : l.getD k zs0 = l[k] := by simp [List.getD, List.getElem?_eq_getElem hk]
      rw [this]; exact hs _ (List.getElem_mem _)
end Go.Proofs.Ythjckkcafhiomaa.Pd
