/- Walks: the place of an identity. -/
import Derived.Test.YtgobbeommjjlfaaDdV
namespace Go.Proofs.Ytgobbeommjjlfaa
open Go.RowKit

theorem bnot_t {v : Bool} (h : false = !v) : v = true := by cases v with | true => rfl | false => cases h
theorem bnot_f {v : Bool} (h : true = !v) : v = false := by cases v with | true => cases h | false => rfl
/-- The three variables that the closure captures. -/
structure Cap (W : World) (g1 g2 g3 : Nat) (S : Value) (s x : Int) : Prop where
  a : W.cell? ⟨g1, 0, none⟩ = some S
  b : W.cell? ⟨g2, 0, none⟩ = some (.int .i64 s)
  c : W.cell? ⟨g3, 0, none⟩ = some (.int .i64 x)
theorem Cap.below {W W' : World} {g1 g2 g3 : Nat} {S : Value} {s x : Int} (h : Cap W g1 g2 g3 S s x) (hb : Below W.heap.size W W') : Cap W' g1 g2 g3 S s x :=
  ⟨(hb.cell (cell_block_lt h.a)).trans h.a, (hb.cell (cell_block_lt h.b)).trans h.b, (hb.cell (cell_block_lt h.c)).trans h.c⟩
set_option maxHeartbeats 4000000 in
theorem clo_is (A : Option Addr) (n c : Nat) (l : List Rg) (k : Nat) (s x : Int) (g1 g2 g3 : Nat) (w : World) (hA : RgR w A l) (hn : l.length = n) (hk : k < n) (hc : n ≤ c) (hm : c ≤ maxLen) (hC : Cap w g1 g2 g3 (.slice A n c) s x) (v : Bool) (hv : bef s x (l.getD k rg0) = !v) :
    Calls Try.prog 39 #[.int .i64 k, .pointer (some ⟨g1, 0, none⟩), .pointer (some ⟨g2, 0, none⟩), .pointer (some ⟨g3, 0, none⟩)] w fun e w' => e = .returned (.bool v) ∧ Below w.heap.size w w' := by
  unfold maxLen at hm
  obtain ⟨bk, off, rfl, hbl, e0, e1, e2⟩ := hA k (by omega)
  obtain ⟨⟨rs, rf, rt⟩, hp⟩ : ∃ p, l.getD k rg0 = p := ⟨_, rfl⟩
  rw [hp] at e0 e1 e2 hv
  simp only at e0 e1 e2
  obtain ⟨a, b, cc⟩ := hC
  have hlt' : (k : Int) < (n : Int) := by omega
  have hBn := Blk.new w 44 #[.int .i64 rs, .int .i64 rf, .int .i64 rt]
  have hbn : Below w.heap.size w (w.alloc (.cells #[.int .i64 rs, .int .i64 rf, .int .i64 rt] 44)) := (Below.refl _ w).alloc (Nat.le_refl _) _
  obtain ⟨c0, c1, c2⟩ := hBn.three
  have a' := (hbn.cell (cell_block_lt a)).trans a
  have b' := (hbn.cell (cell_block_lt b)).trans b
  have c' := (hbn.cell (cell_block_lt cc)).trans cc
  clear hA hp hn hBn
  have hv' : bef s x (rs, rf, rt) = !v := hv
  clear hv
  by_cases x1 : s < rs
  · have d1 : decide (s < rs) = true := decide_eq_true x1
    obtain rfl : v = true := by
      have : bef s x (rs, rf, rt) = false := bef_not.2 (.inl x1)
      rw [this] at hv'; first | exact bnot_t hv' | exact bnot_f hv'
    clear hv'
    go_enter Try.func39, Try.ntmps39
    go_wp2
    go_ret
    exact ⟨rfl, hbn⟩
  · have d1 : decide (s < rs) = false := decide_eq_false x1
    by_cases x2 : rs = s
    · subst x2
      by_cases x3 : x ≤ rt
      · have d3 : decide (x ≤ rt) = true := decide_eq_true x3
        obtain rfl : v = true := by
          have : bef rs x (rs, rf, rt) = false := bef_not.2 (.inr ⟨rfl, x3⟩)
          rw [this] at hv'; first | exact bnot_t hv' | exact bnot_f hv'
        clear hv'
        go_enter Try.func39, Try.ntmps39
        go_wp2
        go_ret
        exact ⟨rfl, hbn⟩
      · have d3 : decide (x ≤ rt) = false := decide_eq_false x3
        obtain rfl : v = false := by
          have : bef rs x (rs, rf, rt) = true := bef_iff.2 (.inr ⟨rfl, by show rt < x; omega⟩)
          rw [this] at hv'; first | exact bnot_t hv' | exact bnot_f hv'
        clear hv'
        go_enter Try.func39, Try.ntmps39
        go_wp2
        go_ret
        exact ⟨rfl, hbn⟩
    · have d2 : (rs == s) = false := by simp [x2]
      obtain rfl : v = false := by
        have : bef s x (rs, rf, rt) = true := bef_iff.2 (.inl (by show rs < s; omega))
        rw [this] at hv'; first | exact bnot_t hv' | exact bnot_f hv'
      clear hv'
      go_enter Try.func39, Try.ntmps39
      go_wp2
      go_ret
      exact ⟨rfl, hbn⟩
set_option maxHeartbeats 4000000 in
theorem search_any (A : Option Addr) (n c : Nat) (l : List Rg) (s x : Int) (g1 g2 g3 : Nat) (w : World) (hl : Can l) (h6 : n ≤ 1000000) (hA : RgR w A l) (hn : l.length = n) (hc : n ≤ c) (hm : c ≤ maxLen) (hC : Cap w g1 g2 g3 (.slice A n c) s x) :
    Calls Try.prog 38 #[.int .i64 n, .func (.func 39) #[] #[.pointer (some ⟨g1, 0, none⟩), .pointer (some ⟨g2, 0, none⟩), .pointer (some ⟨g3, 0, none⟩)]] w fun e w' => e = .returned (.int .i64 (plc s x l)) ∧ Below w.heap.size w w' := by
  have hmm := hm
  unfold maxLen at hm
  have hpl := plc_le s x l
  rw [hn] at hpl
  have HP : Hid (∀ k, k < n → bef s x (l.getD k rg0) = decide (k < plc s x l)) := Lib.hid (fun k hk => plc_get hl (by omega))
  obtain ⟨p, hp⟩ : ∃ p, plc s x l = p := ⟨_, rfl⟩
  rw [hp] at HP hpl ⊢
  have HCL : Hid (∀ (k : Nat) (W : World), k < n → Below w.heap.size w W → ∀ v, decide (k < p) = !v → Calls Try.prog 39 #[.int .i64 k, .pointer (some ⟨g1, 0, none⟩), .pointer (some ⟨g2, 0, none⟩), .pointer (some ⟨g3, 0, none⟩)] W fun e w' => e = .returned (.bool v) ∧ Below W.heap.size W w') :=
    Lib.hid (fun k W hk hb v hv => clo_is A n c l k s x g1 g2 g3 W (hA.below hb) hn hk hc hmm (hC.below hb) v ((HP.out k hk).trans hv))
  clear hA hn hC hl hp HP hmm
  go_enter Try.func38, Try.ntmps38
  go_wp2_with fail
  go_loopw [5, 6] (fun iv jv wr => ∃ i j : Nat, iv = .int .i64 i ∧ jv = .int .i64 j ∧ i ≤ p ∧ p ≤ j ∧ j ≤ n ∧ Below w.heap.size w wr) (fun iv jv _ => (intOf jv).toNat - (intOf iv).toNat)
  case atStart => exact ⟨0, n, rfl, rfl, by omega, by omega, by omega, Below.refl _ _⟩
  case round =>
    obtain ⟨i, j, rfl, rfl, hi, hj, hjn, hb⟩ := hrel
    have hs := hb.size
    by_cases hlt : i < j
    · have hlt' : (i : Int) < (j : Int) := by omega
      obtain ⟨h, hh⟩ : ∃ h, (i + j) / 2 = h := ⟨_, rfl⟩
      have hh1 : i ≤ h := by omega
      have hh2 : h < j := by omega
      have hw1 : IntKind.u64.wrap ((i : Int) + (j : Int)) = (i : Int) + (j : Int) := by rw [IntKind.wrap_u64]; omega
      have hw2 : ((i : Int) + (j : Int)) / 2 = (h : Int) := by omega
      have hd : ∀ v, decide (h < p) = !v → (if v = true then p ≤ h else h < p) := fun v e => by
        cases v
        · simpa using e
        · simpa using e
      obtain ⟨v, hv⟩ : ∃ v, decide (h < p) = !v := ⟨!decide (h < p), by simp⟩
      have HV := Lib.hid (hd v hv)
      have HC := Lib.hid (HCL.out h wr (by omega) hb v hv)
      clear hv hd hh
      cases v
      · have hlp : h < p := by simpa using HV.out
        go_wp2_with (go_at_call 39; (with_reducible refine HC.out.mono ?_); rintro e w1 ⟨rfl, hb1⟩; have hb2 := hb.trans (hb1.mono hs); clear hb1)
        go_roundw
        case rel => exact ⟨h + 1, j, by go_num, rfl, by omega, by omega, by omega, hb2⟩
        case measure => simp [intOf]; omega
      · have hlp : p ≤ h := by simpa using HV.out
        go_wp2_with (go_at_call 39; (with_reducible refine HC.out.mono ?_); rintro e w1 ⟨rfl, hb1⟩; have hb2 := hb.trans (hb1.mono hs); clear hb1)
        go_roundw
        case rel => exact ⟨i, h, rfl, rfl, by omega, by omega, by omega, hb2⟩
        case measure => simp [intOf]; omega
    · obtain rfl : i = j := by omega
      obtain rfl : i = p := by omega
      go_wp2_with fail
      go_ret
      exact ⟨rfl, hb⟩
set_option maxHeartbeats 4000000 in
theorem place_any (A : Option Addr) (n c : Nat) (l : List Rg) (s x : Int) (w : World) (hl : Can l) (h6 : n ≤ 1000000) (hA : RgR w A l) (hn : l.length = n) (hc : n ≤ c) (hm : c ≤ maxLen) :
    Calls Try.prog 30 #[.slice A n c, .int .i64 s, .int .i64 x] w fun e w' => e = .returned (.int .i64 (plc s x l)) ∧ Below w.heap.size w w' := by
  have hb1 : Below w.heap.size w (((w.alloc (.cells #[.slice A n c] 22)).alloc (.cells #[.int .i64 s] 3)).alloc (.cells #[.int .i64 x] 3)) := (((Below.refl _ w).alloc (Nat.le_refl _) _).alloc (by simp) _).alloc (by simp; omega) _
  have hB1 := ((Blk.new w 22 #[.slice A n c]).alloc (.cells #[.int .i64 s] 3)).alloc (.cells #[.int .i64 x] 3)
  have hB2 := (Blk.new (w.alloc (.cells #[.slice A n c] 22)) 3 #[.int .i64 s]).alloc (.cells #[.int .i64 x] 3)
  have hB3 := Blk.new ((w.alloc (.cells #[.slice A n c] 22)).alloc (.cells #[.int .i64 s] 3)) 3 #[.int .i64 x]
  have HS := Lib.hid (search_any A n c l s x _ _ _ _ hl h6 (hA.below hb1) hn hc hm ⟨hB1.one, hB2.one, hB3.one⟩)
  have HB := Lib.hid hb1
  simp only [World.size_alloc] at HS
  clear hb1 hB1 hB2 hB3 hA hl hn
  go_enter Try.func30, Try.ntmps30
  go_wp2_with fail
  refine HS.out.mono ?_
  rintro e w1 ⟨rfl, hb1⟩; have hb2 := HB.out.trans (hb1.mono (by omega))
  go_wp2_with fail
  go_ret
  exact ⟨rfl, hb2⟩
end Go.Proofs.Ytgobbeommjjlfaa
