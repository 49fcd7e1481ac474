/- Walk: few. -/
import Derived.Test.YthjckkcafhiomaaPdP
namespace Go.Proofs.Ythjckkcafhiomaa.Pd
open Go.RowKit

def fewP (p : Pr) : Bool := decide (p.n ≤ 70) && p.bs.all fun b => decide (b.n ≤ 70)
def fewB (l : List Pr) : Bool := decide (l.length ≤ 20) && l.all fewP
theorem few_no {l : List Pr} {k : Nat} (h : k < l.length) (hp : fewP (l.getD k pr0) = false) : fewB l = false := by
  unfold fewB
  have : l.all fewP = false := by
    rw [List.all_eq_false]
    exact ⟨l[k], List.getElem_mem _, by simpa [List.getD, List.getElem?_eq_getElem h] using hp⟩
  rw [this, Bool.and_false]
theorem few_yes {l : List Pr} (h : l.length ≤ 20) (hp : ∀ k, k < l.length → fewP (l.getD k pr0) = true) : fewB l = true := by
  unfold fewB
  rw [decide_eq_true h, Bool.true_and, List.all_eq_true]
  intro x hx
  obtain ⟨k, hk, rfl⟩ := List.mem_iff_getElem.1 hx
  simpa [List.getD, List.getElem?_eq_getElem hk] using hp k hk
theorem few_len {l : List Pr} (h : fewB l = true) : l.length ≤ 20 := by
  unfold fewB at h; rw [Bool.and_eq_true] at h; exact of_decide_eq_true h.1
theorem few_mem {l : List Pr} (h : fewB l = true) : ∀ p ∈ l, p.n ≤ 70 := by
  unfold fewB at h; rw [Bool.and_eq_true, List.all_eq_true] at h
  intro p hp
  have := h.2 p hp
  unfold fewP at this; rw [Bool.and_eq_true] at this; exact of_decide_eq_true this.1
theorem fewP_len {p : Pr} (h : 70 < p.n) : fewP p = false := by unfold fewP; rw [decide_eq_false (by omega)]; rfl
theorem fewP_no {p : Pr} {k : Nat} (h : k < p.bs.length) (hb : 70 < (p.bs.getD k bn0).n) : fewP p = false := by
  unfold fewP
  have : (p.bs.all fun b => decide (b.n ≤ 70)) = false := by
    rw [List.all_eq_false]
    refine ⟨p.bs[k], List.getElem_mem _, ?_⟩
    have e : p.bs.getD k bn0 = p.bs[k] := by simp [List.getD, List.getElem?_eq_getElem h]
    rw [e] at hb
    simp; omega
  rw [this, Bool.and_false]
theorem fewP_yes {p : Pr} (h : p.n ≤ 70) (hb : ∀ k, k < p.bs.length → (p.bs.getD k bn0).n ≤ 70) : fewP p = true := by
  unfold fewP
  rw [decide_eq_true h, Bool.true_and, List.all_eq_true]
  intro x hx
  obtain ⟨k, hk, rfl⟩ := List.mem_iff_getElem.1 hx
  have := hb k hk
  have e : p.bs.getD k bn0 = p.bs[k] := by simp [List.getD, List.getElem?_eq_getElem hk]
  rw [e] at this
  exact decide_eq_true this
set_option maxRecDepth 100000 in
set_option maxHeartbeats 8000000 in
theorem few_any (A : Option Addr) (n c : Nat) (l : List Pr) (w : World) (hA : PrR w A l) (hn : l.length = n) (hc : n ≤ c) (hm : c ≤ maxLen) :
    Calls Try.prog 8 #[.slice A n c] w fun e w' => e = .returned (.bool (fewB l)) ∧ w = w' := by
  have hmm := hm
  unfold maxLen at hmm
  by_cases h20 : 20 < n
  · have d1 : decide (20 < (n : Int)) = true := decide_eq_true (by omega)
    have HR : Hid (fewB l = false) := Lib.hid (by unfold fewB; rw [decide_eq_false (by omega)]; rfl)
    clear hA hn h20 hc hm hmm
    go_enter Try.func8, Try.ntmps8
    go_wp2
    go_ret
    exact ⟨ret_bool HR.out.symm, rfl⟩
  have d1 : decide (20 < (n : Int)) = false := decide_eq_false (by omega)
  have HA := Lib.hid hA; have HN := Lib.hid hn
  clear hA hn hc hm
  go_enter Try.func8, Try.ntmps8
  go_wp2_with fail
  clear d1
  go_loopw [3] (fun iv wr => ∃ k : Nat, iv = .int .i64 k ∧ k ≤ n ∧ wr = w ∧ Hid (∀ j, j < k → fewP (l.getD j pr0) = true)) (fun iv _ => n - (intOf iv).toNat)
  case atStart => exact ⟨0, rfl, by omega, rfl, Lib.hid fun j h => absurd h (Nat.not_lt_zero j)⟩
  case round =>
    obtain ⟨k, rfl, hk, rfl, HO⟩ := hrel
    by_cases hlt : k < n
    · have hkl : k < l.length := by rw [HN.out]; exact hlt
      have hlt' : (k : Int) < (n : Int) := by omega
      obtain ⟨bk, off, rfl, hbl, hcs, hok⟩ := HA.out k hkl
      have HKL := Lib.hid hkl
      obtain ⟨p, hp⟩ : ∃ p, l.getD k pr0 = p := ⟨_, rfl⟩
      rw [hp] at hcs hok
      have HP := Lib.hid hp
      obtain ⟨nm, fr, fe, ca, pr, pA, pN, pC, bs⟩ := p
      unfold Pr.cells at hcs
      simp only at hcs
      obtain ⟨e0, e1, e2, e3, e4, e5⟩ := hcs.all
      have HOK := Lib.hid hok
      have hpN : bs.length = pN := hok.len
      have hpm : pN ≤ maxLen := Nat.le_trans hok.cap hok.max
      unfold maxLen at hpm
      have HPN := Lib.hid hpN
      clear hcs hp hkl hbl hok hpN
      by_cases h70 : 70 < pN
      · have d2 : decide (70 < (pN : Int)) = true := decide_eq_true (by omega)
        have HR := Lib.hid (few_no HKL.out (by rw [HP.out]; exact fewP_len h70))
        clear h70
        go_wp2_with fail
        go_ret
        exact ⟨ret_bool HR.out.symm, rfl⟩
      have d2 : decide (70 < (pN : Int)) = false := decide_eq_false (by omega)
      have H70 := Lib.hid h70
      clear h70
      go_wp2_with fail
      clear d2
      go_loopw [4] (fun jv w9 => ∃ j : Nat, jv = .int .i64 j ∧ j ≤ pN ∧ w9 = wr ∧ Hid (∀ i, i < j → (bs.getD i bn0).n ≤ 70)) (fun jv _ => pN - (intOf jv).toNat)
      case atStart => exact ⟨0, rfl, by omega, rfl, Lib.hid fun j h => absurd h (Nat.not_lt_zero j)⟩
      case round =>
        obtain ⟨j, rfl, hj, rfl, HJ⟩ := hrel
        by_cases hjl : j < pN
        · have hjb : j < bs.length := by rw [HPN.out]; exact hjl
          have hjl' : (j : Int) < (pN : Int) := by omega
          obtain ⟨bj, offj, rfl, hbj, hcj, hokj⟩ := HOK.out.bs j hjb
          have HJB := Lib.hid hjb
          obtain ⟨b, hb⟩ : ∃ b, bs.getD j bn0 = b := ⟨_, rfl⟩
          rw [hb] at hcj hokj
          have HBB := Lib.hid hb
          obtain ⟨bkk, bA, bN, bC, bu, br, bp, bsh, zs⟩ := b
          unfold Bn.cells at hcj
          simp only at hcj
          obtain ⟨y0, y1, y2, y3, y4, y5⟩ := hcj.all
          have hbm : bN ≤ maxLen := Nat.le_trans hokj.cap hokj.max
          unfold maxLen at hbm
          clear hcj hb hjb hbj hokj
          by_cases hb7 : 70 < bN
          · have d3 : decide (70 < (bN : Int)) = true := decide_eq_true (by omega)
            have HR := Lib.hid (few_no HKL.out (by rw [HP.out]; exact fewP_no HJB.out (by rw [HBB.out]; exact hb7)))
            clear hb7
            go_wp2_with fail
            go_ret
            exact ⟨ret_bool HR.out.symm, rfl⟩
          · have d3 : decide (70 < (bN : Int)) = false := decide_eq_false (by omega)
            have HJ2 : Hid (∀ i, i < j + 1 → (bs.getD i bn0).n ≤ 70) := Lib.hid fun i h => by
              rcases Nat.lt_or_ge i j with h | h
              · exact HJ.out i h
              · obtain rfl : i = j := by omega
                rw [HBB.out]; show bN ≤ 70; omega
            clear hb7
            go_wp2_with fail
            go_roundw
            case rel => exact ⟨j + 1, by go_num, by omega, by simp, HJ2⟩
            case measure => simp [intOf]; omega
        · obtain rfl : j = pN := by omega
          have HO2 : Hid (∀ i, i < k + 1 → fewP (l.getD i pr0) = true) := Lib.hid fun i h => by
            rcases Nat.lt_or_ge i k with h | h
            · exact HO.out i h
            · obtain rfl : i = k := by omega
              rw [HP.out]; exact fewP_yes (show j ≤ 70 by have := H70.out; omega) (by show ∀ i, i < bs.length → _; rw [HPN.out]; exact HJ.out)
          go_wp2_with fail
          go_roundw
          case rel => exact ⟨k + 1, by go_num, by omega, by simp, HO2⟩
          case measure => simp [intOf]; omega
    · obtain rfl : k = n := by omega
      have HR : Hid (fewB l = true) := Lib.hid (few_yes (by rw [HN.out]; omega) (by rw [HN.out]; exact HO.out))
      go_wp2_with fail
      go_ret
      exact ⟨ret_bool HR.out.symm, rfl⟩
end Go.Proofs.Ythjckkcafhiomaa.Pd
