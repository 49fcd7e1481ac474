/- Walks: short records, few records. -/
import Derived.Test.YtpmcmafbfboocaaDoorVaB
namespace Go.Proofs.YtpmcmafbfboocaaDoor.Va
open Go.RowKit

/-- A record whose numbers are short. -/
def shR (r : Rc) : Bool := decide (r.sa.size ≤ 200) && decide (r.sb.size ≤ 200)
theorem shR_of {r : Rc} (h : shR r = true) : r.sa.size ≤ maxLen ∧ r.sb.size ≤ maxLen := by
  unfold shR at h
  rw [Bool.and_eq_true, decide_eq_true_eq, decide_eq_true_eq] at h
  unfold maxLen
  omega
theorem short_any (r : Rc) (w : World) : Calls Tryd.prog 8 #[.agg r.cells] w fun e w' => e = .returned (.bool (shR r)) ∧ Below w.heap.size w w' := by
  have hL0 : Below w.heap.size w (w.alloc (.cells r.cells 23)) := (Below.refl _ w).alloc (Nat.le_refl _) _
  obtain ⟨s0, s1, s2, sa, sb, s5, s6, s7, s8, b9, s10, b11⟩ := r
  have HL0 := Lib.hid hL0
  simp only [shR]
  unfold Rc.cells at hL0 HL0 ⊢
  clear hL0
  simp only at HL0 ⊢
  by_cases h1 : sa.size ≤ 200
  · have h1i : (sa.size : Int) ≤ 200 := by omega
    by_cases h2 : sb.size ≤ 200
    · have h2i : (sb.size : Int) ≤ 200 := by omega
      have HH := Lib.hid (And.intro h1 h2)
      clear h1 h2
      go_enter Tryd.func8, Tryd.ntmps8
      go_wp2
      go_ret
      exact ⟨ret_bool (by simp [HH.out.1, HH.out.2]), HL0.out⟩
    · have h2i : (200 : Int) < (sb.size : Int) := by omega
      have HH := Lib.hid (And.intro h1 h2)
      clear h1 h2
      go_enter Tryd.func8, Tryd.ntmps8
      go_wp2
      go_ret
      exact ⟨ret_bool (by simp [HH.out.1, HH.out.2]; try omega), HL0.out⟩
  · have h1i : (200 : Int) < (sa.size : Int) := by omega
    have HH := Lib.hid h1
    clear h1
    go_enter Tryd.func8, Tryd.ntmps8
    go_wp2
    go_ret
    exact ⟨ret_bool (by simp [HH.out]; try omega), HL0.out⟩
/-- Few records. -/
def fewL (l : List Rc) : Bool := (l.take 61).all shR && decide (l.length ≤ 60)
theorem few_step {l : List Rc} {k : Nat} (hk : k < l.length) : (l.take (k + 1)).all shR = ((l.take k).all shR && shR (l.getD k rc0)) := by
  rw [List.take_succ_eq_append_getElem hk, List.all_append]
  simp [List.getD, List.getElem?_eq_getElem hk]
theorem few_no {l : List Rc} {k : Nat} (hk : k < l.length) (h6 : k < 61) (h : shR (l.getD k rc0) = false) : fewL l = false := by
  unfold fewL
  rw [Bool.and_eq_false_iff]
  refine .inl (Bool.eq_false_iff.2 fun ha => ?_)
  rw [List.all_eq_true] at ha
  have := ha (l.getD k rc0) (by
    rw [List.getD_eq_getElem?_getD, List.getElem?_eq_getElem hk, Option.getD_some]
    exact List.mem_take_iff_getElem.2 ⟨k, by omega, rfl⟩)
  rw [h] at this
  exact absurd this (by decide)
theorem few_end {l : List Rc} {k : Nat} (hk : l.length ≤ k ∨ 61 ≤ k) (ha : (l.take k).all shR = true) : fewL l = decide (l.length ≤ 60) := by
  unfold fewL
  by_cases h60 : l.length ≤ 60
  · have h1 : l.take 61 = l := List.take_of_length_le (by omega)
    have h2 : l.take k = l := List.take_of_length_le (by omega)
    rw [h1, ← h2, ha]
    rfl
  · rw [decide_eq_false h60, Bool.and_false]
theorem few_len {l : List Rc} (h : fewL l = true) : l.length ≤ 60 ∧ ∀ r ∈ l, r.sa.size ≤ maxLen ∧ r.sb.size ≤ maxLen := by
  unfold fewL at h
  rw [Bool.and_eq_true, decide_eq_true_eq] at h
  obtain ⟨h1, h2⟩ := h
  rw [List.take_of_length_le (by omega), List.all_eq_true] at h1
  exact ⟨h2, fun r hr => shR_of (h1 r hr)⟩
set_option maxRecDepth 100000 in
set_option maxHeartbeats 4000000 in
theorem few_any (A : Option Addr) (n c : Nat) (l : List Rc) (w : World) (hA : RecR w A l) (hn : l.length = n) (h6 : n ≤ maxLen) :
    Calls Tryd.prog 14 #[.slice A n c] w fun e w' => e = .returned (.bool (fewL l)) ∧ Below w.heap.size w w' := by
  have HA := Lib.hid hA; have HN := Lib.hid hn
  unfold maxLen at h6
  clear hA hn
  go_enter Tryd.func14, Tryd.ntmps14
  go_wp2_with fail
  go_loopw [3] (fun iv wr => ∃ k : Nat, iv = .int .i64 k ∧ k ≤ n ∧ k ≤ 61 ∧ Hid ((l.take k).all shR = true) ∧ Below w.heap.size w wr) (fun iv _ => 62 - (intOf iv).toNat)
  case atStart => exact ⟨0, rfl, by omega, by omega, Lib.hid (by rw [List.take_zero]; rfl), Below.refl _ _⟩
  case round =>
    obtain ⟨k, rfl, hk, hk6, HF, hb⟩ := hrel
    by_cases hlt : k < n
    · have hlt' : (k : Int) < (n : Int) := by omega
      have hk0 : (0 : Int) ≤ (k : Int) := by omega
      by_cases hl6 : k < 61
      · have hl6' : (k : Int) < 61 := by omega
        have hkl : k < l.length := by rw [HN.out]; exact hlt
        obtain ⟨bk, off, rfl, hbl, hcs⟩ := (HA.out.below hb) k hkl
        have HSH := Lib.hid (short_any (l.getD k rc0))
        have HST := Lib.hid (few_step hkl)
        have HNO := Lib.hid (few_no hkl hl6)
        obtain ⟨⟨s0, s1, s2, sa, sb, s5, s6, s7, s8, b9, s10, b11⟩, hp⟩ : ∃ r, l.getD k rc0 = r := ⟨_, rfl⟩
        rw [hp] at hcs HSH HST HNO
        obtain ⟨e0, e1, e2, e3, e4, e5, e6, e7, e8, e9, e10, e11⟩ := hcs.all
        simp only at e0 e1 e2 e3 e4 e5 e6 e7 e8 e9 e10 e11
        simp only [Rc.cells] at HSH
        obtain ⟨x, hx⟩ : ∃ x, shR ⟨s0, s1, s2, sa, sb, s5, s6, s7, s8, b9, s10, b11⟩ = x := ⟨_, rfl⟩
        rw [hx] at HSH HST HNO
        clear hp hkl hcs hbl hx
        cases x
        · go_wp2_with (go_at_call 8; (with_reducible refine (HSH.out _).mono ?_); rintro e w1 ⟨rfl, hb1⟩; have HB1 := Lib.hid (hb.trans (hb1.mono hb.size)); clear hb1)
          go_ret
          exact ⟨ret_bool (HNO.out (by trivial)).symm, HB1.out⟩
        · go_wp2_with (go_at_call 8; (with_reducible refine (HSH.out _).mono ?_); rintro e w1 ⟨rfl, hb1⟩; have HB1 := Lib.hid (hb.trans (hb1.mono hb.size)); clear hb1)
          go_roundw
          case rel => exact ⟨k + 1, by go_num, by omega, by omega, Lib.hid (by rw [HST.out, HF.out]; rfl), HB1.out⟩
          case measure => simp [intOf]; omega
      · have hl6' : (61 : Int) ≤ (k : Int) := by omega
        have HE := Lib.hid (few_end (.inr (by omega)) HF.out)
        have hl60 : (60 : Int) < (n : Int) := by omega
        clear HF
        go_wp2_with fail
        go_ret
        exact ⟨ret_bool (by rw [HE.out, HN.out]; first | rfl | (simp; omega)), hb⟩
    · obtain rfl : k = n := by omega
      have HE := Lib.hid (few_end (.inl (by rw [HN.out]; omega)) HF.out)
      by_cases h60 : k ≤ 60
      · have h60' : (k : Int) ≤ 60 := by omega
        have hl6' : (k : Int) < 61 := by omega
        have HQ := Lib.hid h60
        clear h60
        go_wp2_with fail
        go_ret
        exact ⟨ret_bool (by rw [HE.out, HN.out]; have := HQ.out; simp [this]), hb⟩
      · have h60' : (60 : Int) < (k : Int) := by omega
        have HQ := Lib.hid h60
        clear h60
        go_wp2_with fail
        go_ret
        exact ⟨ret_bool (by rw [HE.out, HN.out]; have := HQ.out; simp [this]; try omega), hb⟩
end Go.Proofs.YtpmcmafbfboocaaDoor.Va
