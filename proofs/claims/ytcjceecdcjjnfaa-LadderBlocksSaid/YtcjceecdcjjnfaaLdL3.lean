/- Walk: a ladder with one step charges each begun block. -/
import Derived.Test.YtcjceecdcjjnfaaLdL2
namespace Go.Proofs.Ytcjceecdcjjnfaa
open Go.RowKit Ck Go.Lib

theorem one_steps {q p : Nat} (hq : 1 ≤ q ∧ q ≤ 1000) (hp : p ≤ 65535) : stepsE [⟨0, q, p⟩] = 0 := by
  have e : stepsE [⟨0, q, p⟩] = spE 0 true ⟨0, q, p⟩ := by
    show (if spE 0 true ⟨0, q, p⟩ = 0 then 0 else spE 0 true ⟨0, q, p⟩) = _
    split
    · rename_i h; exact h.symm
    · rfl
  rw [e]
  unfold spE
  rw [inR_iff.2 (show (0 : Int) ≤ 0 ∧ (0 : Int) ≤ 1099511627776 by omega), inR_iff.2 (show (1 : Int) ≤ (q : Int) ∧ (q : Int) ≤ 1099511627776 by omega), inR_iff.2 (show (0 : Int) ≤ (p : Int) ∧ (p : Int) ≤ 1125899906842624 by omega)]
  rfl
theorem two_steps {q p : Nat} (hq : 1 ≤ q ∧ q ≤ 1000) (hp : p ≤ 65535) : stepsE [⟨q, q, 0⟩, ⟨0, q, p⟩] = 0 := by
  have e1 : spE 0 false ⟨q, q, 0⟩ = 0 := by
    unfold spE
    rw [inR_iff.2 (show (0 : Int) ≤ (q : Int) ∧ (q : Int) ≤ 1099511627776 by omega), inR_iff.2 (show (1 : Int) ≤ (q : Int) ∧ (q : Int) ≤ 1099511627776 by omega), inR_iff.2 (show (0 : Int) ≤ 0 ∧ (0 : Int) ≤ 1125899906842624 by omega), decide_eq_false (show ¬ (q : Int) = 0 by omega), decide_eq_false (show ¬ (q : Int) ≤ 0 by omega)]
    rfl
  have e2 : spE q true ⟨0, q, p⟩ = 0 := by
    unfold spE
    rw [inR_iff.2 (show (0 : Int) ≤ 0 ∧ (0 : Int) ≤ 1099511627776 by omega), inR_iff.2 (show (1 : Int) ≤ (q : Int) ∧ (q : Int) ≤ 1099511627776 by omega), inR_iff.2 (show (0 : Int) ≤ (p : Int) ∧ (p : Int) ≤ 1125899906842624 by omega)]
    rfl
  show (if spE 0 false ⟨q, q, 0⟩ = 0 then (if spE q true ⟨0, q, p⟩ = 0 then 0 else spE q true ⟨0, q, p⟩) else spE 0 false ⟨q, q, 0⟩) = 0
  rw [if_pos e1, if_pos e2]
theorem one_prc (q p n : Nat) : prcN [⟨0, q, p⟩] n = p * ceilN n q := by
  show (p : Int).toNat * ceilN (((n : Int) - 0).toNat) (q : Int).toNat + 0 = _
  rw [Int.sub_zero, Int.toNat_natCast, Int.toNat_natCast, Int.toNat_natCast, Nat.add_zero]
theorem two_prc (q p n : Nat) : prcN [⟨q, q, 0⟩, ⟨0, q, p⟩] n = p * ceilN (n - q) q := by
  show (0 : Int).toNat * ceilN (((min (n : Int) (q : Int)) - 0).toNat) (q : Int).toNat + ((p : Int).toNat * ceilN (((n : Int) - (q : Int)).toNat) (q : Int).toNat + 0) = _
  rw [Int.toNat_natCast, Int.toNat_natCast, show ((n : Int) - (q : Int)).toNat = n - q by omega, show (0 : Int).toNat = 0 from rfl, Nat.zero_mul, Nat.zero_add, Nat.add_zero]
theorem ceil_less {n q : Nat} (hq : 1 ≤ q) : ceilN (n - q) q = ceilN n q - 1 := by
  unfold ceilN
  by_cases h : q ≤ n
  · have e : n + q - 1 = (n - q + q - 1) + q := by omega
    rw [e, Nat.add_div_right _ (show 0 < q by omega)]
    rfl
  · have e1 : (n - q + q - 1) / q = 0 := Nat.div_eq_of_lt (by omega)
    have e2 : (n + q - 1) / q ≤ 1 := by
      have : (n + q - 1) / q < 2 := by rw [Nat.div_lt_iff_lt_mul (by omega)]; omega
      omega
    rw [e1]
    generalize (n + q - 1) / q = z at e2
    omega
theorem price_small {l : List Sp} {n v : Nat} (hs : stepsE l = 0) (hn : n ≤ 4294967295) (hv : prcN l n = v) (hv2 : v ≤ 1125899906842624) : pcV l n = (v : Int) ∧ pcE l n = 0 := by
  have h0 : prE l (n : Int) = 0 := prE_zero.2 ⟨by omega, by omega, by rw [Int.toNat_natCast, hv]; exact hv2⟩
  unfold pcV pcE
  rw [if_pos hs, if_pos hs, prV_zero h0, Int.toNat_natCast, hv]
  exact ⟨rfl, h0⟩

set_option maxRecDepth 100000 in
set_option maxHeartbeats 8000000 in
theorem walkLadderBlocks (a b n : Int) (w : World) (ha : (Lit.int .u16 a).wf = true) (hb : (Lit.int .u16 b).wf = true) (hn : (Lit.int .u32 n).wf = true) :
    Calls Try.prog 8 #[.int .u16 a, .int .u16 b, .int .u32 n] w fun e w' => e = .returned (.bool true) ∧ Below w.heap.size w w' := by
  have ha1 : 0 ≤ a ∧ a ≤ 65535 := by simpa [Lit.wf, IntKind.min, IntKind.max, IntKind.signed, IntKind.bits] using ha
  have hb1 : 0 ≤ b ∧ b ≤ 65535 := by simpa [Lit.wf, IntKind.min, IntKind.max, IntKind.signed, IntKind.bits] using hb
  have hn1 : 0 ≤ n ∧ n ≤ 4294967295 := by simpa [Lit.wf, IntKind.min, IntKind.max, IntKind.signed, IntKind.bits] using hn
  clear ha hb hn
  obtain ⟨P, rfl⟩ := Int.eq_ofNat_of_zero_le hb1.1
  obtain ⟨N, rfl⟩ := Int.eq_ofNat_of_zero_le hn1.1
  obtain ⟨Q, hQ⟩ : ∃ Q : Nat, 1 + a % 1000 = (Q : Int) := ⟨(1 + a % 1000).toNat, by omega⟩
  have hQ1 : 1 ≤ Q ∧ Q ≤ 1000 := by omega
  have hP : P ≤ 65535 := by omega
  have hN : N ≤ 4294967295 := by omega
  have hqz : ¬ Q = 0 := by omega
  have hcd := ceil_div (u := N) hQ1.1
  have hcl := ceil_less (n := N) hQ1.1
  obtain ⟨B, hBv⟩ : ∃ B, ceilN N Q = B := ⟨_, rfl⟩
  have hBN : B ≤ N := hBv ▸ ceilN_le hQ1.1
  obtain ⟨M, hM⟩ : ∃ M, B - 1 = M := ⟨_, rfl⟩
  have hdm := Nat.div_add_mod N Q
  obtain ⟨D, hD⟩ : ∃ D, N / Q = D := ⟨_, rfl⟩
  obtain ⟨E, hE⟩ : ∃ E, D * Q = E := ⟨_, rfl⟩
  obtain ⟨R, hR⟩ : ∃ R, N % Q = R := ⟨_, rfl⟩
  rw [hD, hR, Nat.mul_comm, hE] at hdm
  rw [hBv, hD, hR] at hcd
  rw [hBv, hM] at hcl
  have hDN : D ≤ N := hD ▸ Nat.div_le_self N Q
  have f1 : IntKind.i64.wrap ((N : Int).tdiv (Q : Int)) = (D : Int) := by rw [← Int.ofNat_tdiv, hD]; simp only [IntKind.wrap_i64]; omega
  have f1b : (N : Int) / (Q : Int) = (D : Int) := by rw [← hD]; rfl
  have f2 : IntKind.i64.wrap ((D : Int) * (Q : Int)) = (E : Int) := by rw [← Int.natCast_mul, hE]; simp only [IntKind.wrap_i64]; omega
  obtain ⟨V, hV⟩ : ∃ V, P * B = V := ⟨_, rfl⟩
  obtain ⟨V2, hV2⟩ : ∃ V, P * M = V := ⟨_, rfl⟩
  have hVb : V ≤ 281474976710656 := by rw [← hV]; exact Nat.le_trans (Nat.mul_le_mul hP (Nat.le_trans hBN hN)) (by decide)
  have hV2b : V2 ≤ 281474976710656 := by rw [← hV2]; exact Nat.le_trans (Nat.mul_le_mul hP (show M ≤ 4294967295 by omega)) (by decide)
  have p1 := price_small (one_steps hQ1 hP) hN ((one_prc Q P N).trans (by rw [hBv, hV])) (by omega)
  have p2 := price_small (two_steps hQ1 hP) hN ((two_prc Q P N).trans (by rw [hcl, hV2])) (by omega)
  have H1 := Lib.hid (fun (W : World) => Price_is p1.1 p1.2 (some ⟨W.heap.size, 0, none⟩) 1 1 _ (SpR.one W ⟨0, Q, P⟩) rfl (Nat.le_refl _) (by decide))
  have H2 := Lib.hid (fun (W : World) => Price_is p2.1 p2.2 (some ⟨W.heap.size, 0, none⟩) 2 2 _ (SpR.two W ⟨Q, Q, 0⟩ ⟨0, Q, P⟩) rfl (Nat.le_refl _) (by decide))
  have H3 := Lib.hid (fun (W : World) (h : Below (w.alloc (.cells #[.int .i64 0, .int .i64 Q, .int .i64 P] 37)).heap.size (w.alloc (.cells #[.int .i64 0, .int .i64 Q, .int .i64 P] 37)) W) => one_steps hQ1 hP ▸ steps_any (some ⟨w.heap.size, 0, none⟩) 1 1 _ W ((SpR.one w ⟨0, Q, P⟩).below h rfl) rfl (Nat.le_refl _) (by decide))
  simp only at H1 H2
  clear p1 p2 hBv hcl hE hD
  have hR1 : (B = D ∧ R = 0) ∨ (B = D + 1 ∧ R ≠ 0) := by
    by_cases h : R = 0
    · exact .inl ⟨by rw [hcd, if_pos h], h⟩
    · exact .inr ⟨by rw [hcd, if_neg h], h⟩
  clear hcd hR
  rcases hR1 with ⟨hB, hR⟩ | ⟨hB, hR⟩
  · subst hB
    have g1 : IntKind.i64.wrap ((B : Int) * (P : Int)) = (V : Int) := by
      have : (B : Int) * (P : Int) = ((P * B : Nat) : Int) := by rw [Int.natCast_mul, Int.mul_comm]
      rw [this, hV]; simp only [IntKind.wrap_i64]; omega
    have g2 : max 0 ((B : Int) - 1) = (M : Int) := by omega
    have g3 : IntKind.i64.wrap ((M : Int) * (P : Int)) = (V2 : Int) := by
      have : (M : Int) * (P : Int) = ((P * M : Nat) : Int) := by rw [Int.natCast_mul, Int.mul_comm]
      rw [this, hV2]; simp only [IntKind.wrap_i64]; omega
    have dE : decide ((E : Int) < (N : Int)) = false := decide_eq_false (by omega)
    clear hV hV2 hM
    go_enter Try.func8, Try.ntmps8
    go_wp2_with (first
      | (go_at_call 10; (with_reducible refine (H1.out _).mono ?_); rintro e w1 ⟨rfl, hb⟩; have HB1 := Lib.hid hb; clear hb)
      | (go_at_call 10; (with_reducible refine (H2.out _).mono ?_); rintro e w2 ⟨rfl, hb⟩; have HB2 := Lib.hid (below_then HB1.out (Nat.le_refl _) (below_then (below_one w1 _) (Nat.le_refl _) hb)); clear hb)
      | (go_at_call 18; (with_reducible refine (H3.out _ HB2.out).mono ?_); rintro e w3 ⟨rfl, hb⟩; have HB3 := Lib.hid (below_then HB2.out (Nat.le_refl _) hb); clear hb)
      | (go_at_call 9; (with_reducible refine (awake_any _).mono ?_); rintro e w4 ⟨rfl, hb⟩; have HB4 := Lib.hid (below_then HB3.out (Nat.le_refl _) hb); clear hb))
    go_ret
    exact ⟨rfl, below_then (below_one w _) (Nat.le_refl _) HB4.out⟩
  · have g1 : IntKind.i64.wrap (((D : Int) + 1) * (P : Int)) = (V : Int) := by
      have : ((D : Int) + 1) * (P : Int) = ((P * B : Nat) : Int) := by rw [Int.natCast_mul, Int.mul_comm]; congr 1; omega
      rw [this, hV]; simp only [IntKind.wrap_i64]; omega
    have g2 : max 0 (((D : Int) + 1) - 1) = (M : Int) := by omega
    have g4 : max 0 (D : Int) = (M : Int) := by omega
    have g3 : IntKind.i64.wrap ((M : Int) * (P : Int)) = (V2 : Int) := by
      have : (M : Int) * (P : Int) = ((P * M : Nat) : Int) := by rw [Int.natCast_mul, Int.mul_comm]
      rw [this, hV2]; simp only [IntKind.wrap_i64]; omega
    have dE : decide ((E : Int) < (N : Int)) = true := decide_eq_true (by omega)
    clear hB hV hV2 hM
    go_enter Try.func8, Try.ntmps8
    go_wp2_with (first
      | (go_at_call 10; (with_reducible refine (H1.out _).mono ?_); rintro e w1 ⟨rfl, hb⟩; have HB1 := Lib.hid hb; clear hb)
      | (go_at_call 10; (with_reducible refine (H2.out _).mono ?_); rintro e w2 ⟨rfl, hb⟩; have HB2 := Lib.hid (below_then HB1.out (Nat.le_refl _) (below_then (below_one w1 _) (Nat.le_refl _) hb)); clear hb)
      | (go_at_call 18; (with_reducible refine (H3.out _ HB2.out).mono ?_); rintro e w3 ⟨rfl, hb⟩; have HB3 := Lib.hid (below_then HB2.out (Nat.le_refl _) hb); clear hb)
      | (go_at_call 9; (with_reducible refine (awake_any _).mono ?_); rintro e w4 ⟨rfl, hb⟩; have HB4 := Lib.hid (below_then HB3.out (Nat.le_refl _) hb); clear hb))
    go_ret
    exact ⟨rfl, below_then (below_one w _) (Nat.le_refl _) HB4.out⟩
end Go.Proofs.Ytcjceecdcjjnfaa
