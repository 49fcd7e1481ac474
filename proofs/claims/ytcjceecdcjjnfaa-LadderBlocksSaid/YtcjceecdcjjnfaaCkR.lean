/- Walk of the reference: Steps. -/
import Derived.Test.YtcjceecdcjjnfaaCkS
namespace Go.Proofs.Ytcjceecdcjjnfaa.Ck
open Go Go.Lib Go.RowKit Go.Proofs.Ytcjceecdcjjnfaa

theorem spE_six {b : Int} {last : Bool} {s : Sp} (h : s.up < 0 ∨ 1099511627776 < s.up ∨ s.qu < 1 ∨ 1099511627776 < s.qu ∨ s.pr < 0 ∨ 1125899906842624 < s.pr) : spE b last s = 6 := by
  unfold spE spV
  rw [if_pos]
  rcases h with h | h | h | h | h | h
  · left; unfold inB; rw [decide_eq_false (show ¬ (0 : Int) ≤ s.up by omega)]; rfl
  · left; unfold inB; rw [decide_eq_false (show ¬ s.up ≤ 1099511627776 by omega), Bool.and_false]
  · right; left; unfold inB; rw [decide_eq_false (show ¬ (1 : Int) ≤ s.qu by omega)]; rfl
  · right; left; unfold inB; rw [decide_eq_false (show ¬ s.qu ≤ 1099511627776 by omega), Bool.and_false]
  · right; right; unfold inB; rw [decide_eq_false (show ¬ (0 : Int) ≤ s.pr by omega)]; rfl
  · right; right; unfold inB; rw [decide_eq_false (show ¬ s.pr ≤ 1125899906842624 by omega), Bool.and_false]
theorem spE_not {b : Int} {last z o : Bool} {s : Sp} (h0 : ¬ s.up < 0) (h1 : ¬ 1099511627776 < s.up) (h2 : ¬ s.qu < 1) (h3 : ¬ 1099511627776 < s.qu) (h4 : ¬ s.pr < 0) (h5 : ¬ 1125899906842624 < s.pr) (hz : decide (s.up = 0) = z) (ho : decide (s.up ≤ b) = o) : spE b last s = if last ≠ z then 8 else if last = false ∧ o = true then 9 else 0 := by
  unfold spE spV inB
  rw [hz, ho, decide_eq_true (show (0 : Int) ≤ s.up by omega), decide_eq_true (show s.up ≤ 1099511627776 by omega), decide_eq_true (show (1 : Int) ≤ s.qu by omega), decide_eq_true (show s.qu ≤ 1099511627776 by omega), decide_eq_true (show (0 : Int) ≤ s.pr by omega), decide_eq_true (show s.pr ≤ 1125899906842624 by omega)]
  rfl
set_option maxRecDepth 100000 in
set_option maxHeartbeats 16000000 in
theorem refSteps_any (A : Option Addr) (n c : Nat) (l : List Sp) (w : World) (hA : SpR w A l) (hn : l.length = n) (hc : n ≤ c) (hm : c ≤ maxLen) :
    Calls Try.prog 20 #[.slice A n c] w fun e w' => e = .returned (.int .i64 (stepsE l)) ∧ Below w.heap.size w w' := by
  unfold maxLen at hm
  by_cases h0 : n = 0
  · subst h0
    have HR : Hid (stepsE l = 8) := Lib.hid (by unfold stepsE; rw [if_pos hn])
    clear hA hn
    go_enter Try.func20, Try.ntmps20
    go_wp2_with fail
    go_ret
    exact ⟨ret_i HR.out.symm, Below.refl _ _⟩
  have d0 : ((n : Int) == 0) = false := by rw [beq_eq_false_iff_ne]; omega
  by_cases h64 : 64 < n
  · have d1 : decide ((64 : Int) < (n : Int)) = true := decide_eq_true (by omega)
    have HR : Hid (stepsE l = 5) := Lib.hid (by unfold stepsE; rw [if_neg (by omega), if_pos (by omega)])
    clear hA hn h64 h0
    go_enter Try.func20, Try.ntmps20
    go_wp2_with fail
    go_ret
    exact ⟨ret_i HR.out.symm, Below.refl _ _⟩
  have d1 : decide ((64 : Int) < (n : Int)) = false := decide_eq_false (by omega)
  have hn64 : n ≤ 64 := by omega
  have hn1 : 1 ≤ n := by omega
  have HV : Hid (stepsE l = fstN (spAt l) 0 n) := Lib.hid (by unfold stepsE; rw [if_neg (by omega), if_neg (by omega), hn])
  have HA := Lib.hid hA; have HN := Lib.hid hn
  clear hA hn h64 h0
  go_enter Try.func20, Try.ntmps20
  go_wp2_with fail
  clear d0 d1
  go_loopw [4, 3] (fun iv lv wr => ∃ (k : Nat), iv = .int .i64 k ∧ lv = .int .i64 (prv l k) ∧ k ≤ n ∧ Below w.heap.size w wr ∧ Hid (fstN (spAt l) k (n - k) = stepsE l)) (fun iv _ _ => n - (RowKit.intOf iv).toNat)
  case atStart => exact ⟨0, rfl, rfl, by omega, Below.refl _ _, Lib.hid HV.out.symm⟩
  case round =>
    obtain ⟨k, rfl, rfl, hk, hb, HF⟩ := hrel
    have hs := hb.size
    by_cases hlt : k < n
    · have hkl : k < l.length := by rw [HN.out]; exact hlt
      have hlt' : (k : Int) < (n : Int) := by omega
      obtain ⟨bk, off, rfl, hbl, g0, g1, g2⟩ := HA.out k hkl
      have e0 := (hb.cell (p := ⟨bk, off + k * 3, none⟩) hbl).trans g0
      have e1 := (hb.cell (p := ⟨bk, off + k * 3 + 1, none⟩) hbl).trans g1
      have e2 := (hb.cell (p := ⟨bk, off + k * 3 + 2, none⟩) hbl).trans g2
      obtain ⟨⟨up, qu, pr⟩, hp⟩ : ∃ r, l.getD k sp0 = r := ⟨_, rfl⟩
      rw [hp] at e0 e1 e2
      simp only at e0 e1 e2
      obtain ⟨b, hbv⟩ : ∃ b, prv l k = b := ⟨_, rfl⟩
      rw [hbv]
      obtain ⟨lst, hl⟩ : ∃ b, decide (k + 1 = n) = b := ⟨_, rfl⟩
      have hl2 : ((k : Int) == (n : Int) - 1) = lst := by
        rw [← hl]
        by_cases h : k + 1 = n
        · rw [decide_eq_true h, beq_iff_eq]; omega
        · rw [decide_eq_false h, beq_eq_false_iff_ne]; omega
      have hv : spAt l k = spE b lst ⟨up, qu, pr⟩ := by unfold spAt; rw [hp, HN.out, hl, hbv]
      have hf := HF.out
      rw [fstN_next hlt, hv] at hf
      have hpv : prv l (k + 1) = up := by unfold prv; rw [if_neg (by omega), show k + 1 - 1 = k by omega, hp]
      have HPV := Lib.hid hpv
      have HB := Lib.hid (hb.alloc hs (.cells #[.int .i64 up, .int .i64 qu, .int .i64 pr] 37))
      have hB := Blk.new wr 37 #[.int .i64 up, .int .i64 qu, .int .i64 pr]
      have c0 := hB.cell 0; have c1 := hB.cell 1; have c2 := hB.cell 2
      clear hp g0 g1 g2 hv hB hpv hkl HF HV hbv hl
      have hcase : decide (up < 0) = true ∨ (decide (up < 0) = false ∧ decide (1099511627776 < up) = true) ∨ (decide (up < 0) = false ∧ decide (1099511627776 < up) = false ∧ decide (qu < 1) = true) ∨ (decide (up < 0) = false ∧ decide (1099511627776 < up) = false ∧ decide (qu < 1) = false ∧ decide (1099511627776 < qu) = true) ∨ (decide (up < 0) = false ∧ decide (1099511627776 < up) = false ∧ decide (qu < 1) = false ∧ decide (1099511627776 < qu) = false ∧ decide (pr < 0) = true) ∨ (decide (up < 0) = false ∧ decide (1099511627776 < up) = false ∧ decide (qu < 1) = false ∧ decide (1099511627776 < qu) = false ∧ decide (pr < 0) = false ∧ decide (1125899906842624 < pr) = true) ∨ (decide (up < 0) = false ∧ decide (1099511627776 < up) = false ∧ decide (qu < 1) = false ∧ decide (1099511627776 < qu) = false ∧ decide (pr < 0) = false ∧ decide (1125899906842624 < pr) = false) := by
        cases decide (up < 0) <;> cases decide (1099511627776 < up) <;> cases decide (qu < 1) <;> cases decide (1099511627776 < qu) <;> cases decide (pr < 0) <;> cases decide (1125899906842624 < pr) <;> simp
      rcases hcase with q0 | ⟨q0, q1⟩ | ⟨q0, q1, q2⟩ | ⟨q0, q1, q2, q3⟩ | ⟨q0, q1, q2, q3, q4⟩ | ⟨q0, q1, q2, q3, q4, q5⟩ | ⟨q0, q1, q2, q3, q4, q5⟩
      · rw [spE_six (s := ⟨up, qu, pr⟩) (.inl (of_decide_eq_true q0)), if_neg (by decide)] at hf
        have HF2 := Lib.hid hf
        clear hf
        go_wp2_with fail
        go_ret
        exact ⟨ret_i HF2.out, HB.out⟩
      · rw [spE_six (s := ⟨up, qu, pr⟩) (.inr (.inl (of_decide_eq_true q1))), if_neg (by decide)] at hf
        have HF2 := Lib.hid hf
        clear hf
        go_wp2_with fail
        go_ret
        exact ⟨ret_i HF2.out, HB.out⟩
      · rw [spE_six (s := ⟨up, qu, pr⟩) (.inr (.inr (.inl (of_decide_eq_true q2)))), if_neg (by decide)] at hf
        have HF2 := Lib.hid hf
        clear hf
        go_wp2_with fail
        go_ret
        exact ⟨ret_i HF2.out, HB.out⟩
      · rw [spE_six (s := ⟨up, qu, pr⟩) (.inr (.inr (.inr (.inl (of_decide_eq_true q3))))), if_neg (by decide)] at hf
        have HF2 := Lib.hid hf
        clear hf
        go_wp2_with fail
        go_ret
        exact ⟨ret_i HF2.out, HB.out⟩
      · rw [spE_six (s := ⟨up, qu, pr⟩) (.inr (.inr (.inr (.inr (.inl (of_decide_eq_true q4)))))), if_neg (by decide)] at hf
        have HF2 := Lib.hid hf
        clear hf
        go_wp2_with fail
        go_ret
        exact ⟨ret_i HF2.out, HB.out⟩
      · rw [spE_six (s := ⟨up, qu, pr⟩) (.inr (.inr (.inr (.inr (.inr (of_decide_eq_true q5)))))), if_neg (by decide)] at hf
        have HF2 := Lib.hid hf
        clear hf
        go_wp2_with fail
        go_ret
        exact ⟨ret_i HF2.out, HB.out⟩
      · obtain ⟨z, hz⟩ : ∃ z, decide (up = 0) = z := ⟨_, rfl⟩
        obtain ⟨o, ho⟩ : ∃ o, decide (up ≤ b) = o := ⟨_, rfl⟩
        rw [spE_not (s := ⟨up, qu, pr⟩) (z := z) (o := o) (of_decide_eq_false q0) (of_decide_eq_false q1) (of_decide_eq_false q2) (of_decide_eq_false q3) (of_decide_eq_false q4) (of_decide_eq_false q5) hz ho] at hf
        have hz2 : (up == 0) = z := by rw [← hz]; cases h : decide (up = 0) <;> simp_all
        have hz3 : (up != 0) = !z := by rw [bne, hz2]
        have HF2 := Lib.hid hf
        clear hz hf
        cases lst <;> cases z <;> cases o
        all_goals simp only [Bool.not_true, Bool.not_false] at hz3
        all_goals
          go_wp2_with fail
          first
            | (go_ret; exact ⟨ret_i (HF2.out ▸ rfl), HB.out⟩)
            | skip
        all_goals
          go_roundw
          case rel => exact ⟨k + 1, by go_num, by rw [HPV.out], by omega, HB.out, Lib.hid (by have := HF2.out; simpa using this)⟩
          case measure => simp [RowKit.intOf]; omega
    · obtain rfl : k = n := by omega
      have HR : Hid (stepsE l = 0) := Lib.hid (by rw [← HF.out, fstN_end])
      have dk : decide ((k : Int) < (k : Int)) = false := decide_eq_false (by omega)
      clear HF HV
      go_wp2_with fail
      go_ret
      exact ⟨ret_i HR.out.symm, hb⟩
end Go.Proofs.Ytcjceecdcjjnfaa.Ck
