/- Mathematics: the way back from the bytes of a record, and a byte that was replaced. -/
import Derived.Test.YtblhpbheejemnaaPkZ
namespace Go.Proofs.Ytblhpbheejemnaa

theorem fd_mid {A B C : List Int} {a s : Nat} (ha : A.length = a) (hb : B.length = s) : fd (A ++ (B ++ C)) a s = B := by
  unfold fd
  rw [List.drop_append_of_le_length (by omega), ← ha, List.drop_length, List.nil_append, ← hb]
  exact List.take_left
theorem phL_len (s : ByteArray) : (phL s).length = 8 := phT_len _ _
theorem de_is {z : Int} {k : Nat} (h1 : 1 ≤ k) (h9 : k ≤ 9) (hz : 0 ≤ z) (hb : z.toNat < 100 ^ k) : deL (pdL z.toNat k) = (z, 0) := by
  rw [de_pd h1 h9 hb, Int.toNat_of_nonneg hz]
theorem bad_no {l : List Int} {z : Int} (h : deL l = (z, 0)) : bad l = false := by unfold bad; rw [h]; rfl
theorem ph_at {s : ByteArray} {q : Nat} (hq : q < 8) : (phL s).getD q 0 = phA s.data.toList s.size (2 * q) * 16 + phA s.data.toList s.size (2 * q + 1) := by
  rw [List.getD_eq_getElem?_getD, List.getElem?_eq_getElem (by rw [phL_len]; exact hq)]
  exact phT_at _ _ _ hq
theorem ph_gN {s : ByteArray} (h : dgB s = true) {i : Nat} (hi : i < 16) : gN (phL s) i = phA s.data.toList s.size i := by
  obtain ⟨q, hq⟩ : ∃ q, i = 2 * q ∨ i = 2 * q + 1 := ⟨i / 2, by omega⟩
  have r1 := phA_ran h (i := s.size) (k := 2 * q) (Nat.le_refl _)
  have r2 := phA_ran h (i := s.size) (k := 2 * q + 1) (Nat.le_refl _)
  rcases hq with rfl | rfl
  · unfold gN
    rw [if_neg (by omega), show 2 * q / 2 = q by omega, ph_at (by omega)]
    omega
  · unfold gN
    rw [if_pos (by omega), show (2 * q + 1) / 2 = q by omega, ph_at (by omega)]
    omega
theorem ph_cN {s : ByteArray} (h : dgB s = true) : cN (phL s) = s.size := by
  have r2 := phA_ran h (i := s.size) (k := 1) (Nat.le_refl _)
  unfold cN
  rw [ph_at (q := 0) (by omega)]
  have e : phA s.data.toList s.size (2 * 0) = (s.size : Int) := by unfold phA; rw [if_pos rfl, len_data]
  rw [e]
  have h2 : phA s.data.toList s.size (2 * 0 + 1) = phA s.data.toList s.size 1 := rfl
  rw [h2]
  omega
theorem ph_tx {s : ByteArray} (h : dgB s = true) : ∀ k, k ≤ 15 → txP (phL s) k = ((strB s).take k, true)
  | 0, _ => rfl
  | k + 1, hk => by
    show txS (cN (phL s)) (k + 1) (gN (phL s) (k + 1)) (txP (phL s) k) = _
    rw [ph_tx h k (by omega), ph_cN h, ph_gN h (by omega)]
    have hl := strB_len s
    by_cases hc : k + 1 ≤ s.size
    · have hd := dg_at h (k := k) (by omega)
      have e : phA s.data.toList s.size (k + 1) = (s[k].toNat : Int) - 48 := by
        unfold phA
        rw [if_neg (by omega), if_pos hc, Nat.add_sub_cancel]
        have : s.data.toList.getD k 0 = s[k] := by simp [List.getD, List.getElem?_eq_getElem, show k < s.size by omega, ByteArray.getElem_eq_getElem_data]
        rw [this]
      rw [e, txS_a (by omega) (by omega)]
      have e2 : (strB s)[k]? = some (s[k].toNat : Int) := by
        unfold strB
        simp [List.getElem?_eq_getElem, show k < s.size by omega, ByteArray.getElem_eq_getElem_data]
      rw [List.take_add_one, e2]
      simp only [Option.toList]
      rw [show (48 : Int) + ((s[k].toNat : Int) - 48) = (s[k].toNat : Int) by omega]
    · rw [phA_off (by omega), txS_d (by omega) rfl, List.take_of_length_le (by omega), List.take_of_length_le (by omega)]
theorem ph_all {s : ByteArray} (h : dgB s = true) : txP (phL s) 15 = (strB s, true) := by
  rw [ph_tx h 15 (by omega), List.take_of_length_le (by rw [strB_len]; exact dg_size h)]
theorem body_at (r : Rc) : fd (bodyR r) 0 1 = pdL r.s0.toNat 1 ∧ fd (bodyR r) 1 5 = pdL r.s1.toNat 5 ∧ (bodyR r).getD 6 0 = kbR r ∧ fd (bodyR r) 7 8 = phL r.sa ∧ fd (bodyR r) 15 8 = phL r.sb ∧
    fd (bodyR r) 23 6 = pdL r.s5.toNat 6 ∧ fd (bodyR r) 29 7 = pdL r.s6.toNat 7 ∧ fd (bodyR r) 36 5 = pdL r.s7.toNat 5 ∧ fd (bodyR r) 41 1 = pdL r.s8.toNat 1 ∧ fd (bodyR r) 42 2 = pdL r.s10.toNat 2 := by
  obtain ⟨p0, e0⟩ : ∃ p, pdL r.s0.toNat 1 = p := ⟨_, rfl⟩
  obtain ⟨p1, e1⟩ : ∃ p, pdL r.s1.toNat 5 = p := ⟨_, rfl⟩
  obtain ⟨pa, ea⟩ : ∃ p, phL r.sa = p := ⟨_, rfl⟩
  obtain ⟨pb, eb⟩ : ∃ p, phL r.sb = p := ⟨_, rfl⟩
  obtain ⟨p5, e5⟩ : ∃ p, pdL r.s5.toNat 6 = p := ⟨_, rfl⟩
  obtain ⟨p6, e6⟩ : ∃ p, pdL r.s6.toNat 7 = p := ⟨_, rfl⟩
  obtain ⟨p7, e7⟩ : ∃ p, pdL r.s7.toNat 5 = p := ⟨_, rfl⟩
  obtain ⟨p8, e8⟩ : ∃ p, pdL r.s8.toNat 1 = p := ⟨_, rfl⟩
  obtain ⟨p10, e10⟩ : ∃ p, pdL r.s10.toNat 2 = p := ⟨_, rfl⟩
  have l0 : p0.length = 1 := by rw [← e0, pd_len]
  have l1 : p1.length = 5 := by rw [← e1, pd_len]
  have la : pa.length = 8 := by rw [← ea, phL_len]
  have lb : pb.length = 8 := by rw [← eb, phL_len]
  have l5 : p5.length = 6 := by rw [← e5, pd_len]
  have l6 : p6.length = 7 := by rw [← e6, pd_len]
  have l7 : p7.length = 5 := by rw [← e7, pd_len]
  have l8 : p8.length = 1 := by rw [← e8, pd_len]
  have l10 : p10.length = 2 := by rw [← e10, pd_len]
  unfold bodyR
  rw [e0, e1, ea, eb, e5, e6, e7, e8, e10]
  clear e0 e1 ea eb e5 e6 e7 e8 e10
  generalize kbR r = kb
  refine ⟨?_, ?_, ?_, ?_, ?_, ?_, ?_, ?_, ?_, ?_⟩
  · have := fd_mid (A := []) (B := p0) (C := p1 ++ ([kb] ++ (pa ++ (pb ++ (p5 ++ (p6 ++ (p7 ++ (p8 ++ p10)))))))) (a := 0) rfl l0
    simpa only [List.append_assoc, List.nil_append] using this
  · have := fd_mid (A := p0) (B := p1) (C := [kb] ++ (pa ++ (pb ++ (p5 ++ (p6 ++ (p7 ++ (p8 ++ p10))))))) l0 l1
    simpa only [List.append_assoc] using this
  · simp only [List.append_assoc]
    rw [List.getD_eq_getElem?_getD, List.getElem?_append_right (by omega), List.getElem?_append_right (by omega), l0, l1]
    rfl
  · have := fd_mid (A := p0 ++ (p1 ++ [kb])) (B := pa) (C := pb ++ (p5 ++ (p6 ++ (p7 ++ (p8 ++ p10))))) (a := 7) (by simp [l0, l1]) la
    simpa only [List.append_assoc] using this
  · have := fd_mid (A := p0 ++ (p1 ++ ([kb] ++ pa))) (B := pb) (C := p5 ++ (p6 ++ (p7 ++ (p8 ++ p10)))) (a := 15) (by simp [l0, l1, la]) lb
    simpa only [List.append_assoc] using this
  · have := fd_mid (A := p0 ++ (p1 ++ ([kb] ++ (pa ++ pb)))) (B := p5) (C := p6 ++ (p7 ++ (p8 ++ p10))) (a := 23) (by simp [l0, l1, la, lb]) l5
    simpa only [List.append_assoc] using this
  · have := fd_mid (A := p0 ++ (p1 ++ ([kb] ++ (pa ++ (pb ++ p5))))) (B := p6) (C := p7 ++ (p8 ++ p10)) (a := 29) (by simp [l0, l1, la, lb, l5]) l6
    simpa only [List.append_assoc] using this
  · have := fd_mid (A := p0 ++ (p1 ++ ([kb] ++ (pa ++ (pb ++ (p5 ++ p6)))))) (B := p7) (C := p8 ++ p10) (a := 36) (by simp [l0, l1, la, lb, l5, l6]) l7
    simpa only [List.append_assoc] using this
  · have := fd_mid (A := p0 ++ (p1 ++ ([kb] ++ (pa ++ (pb ++ (p5 ++ (p6 ++ p7))))))) (B := p8) (C := p10) (a := 41) (by simp [l0, l1, la, lb, l5, l6, l7]) l8
    simpa only [List.append_assoc] using this
  · have := fd_mid (A := p0 ++ (p1 ++ ([kb] ++ (pa ++ (pb ++ (p5 ++ (p6 ++ (p7 ++ p8)))))))) (B := p10) (C := []) (a := 42) (by simp [l0, l1, la, lb, l5, l6, l7, l8]) l10
    simpa only [List.append_assoc, List.append_nil] using this
theorem kb_back {r : Rc} (h : r.Fit) : kbR r / 16 = r.s2 ∧ kbR r % 16 ≤ 3 ∧ decide (kbR r % 2 = 1) = r.b9 ∧ decide (kbR r / 2 % 2 = 1) = r.b11 := by
  have h2 := h.n2
  unfold kbR
  generalize r.s2 = s at *
  cases r.b9 <;> cases r.b11 <;> simp <;> omega
theorem pow_lt {z : Int} {k : Nat} (h0 : 0 ≤ z) {B : Int} (h : z ≤ B) (hB : B < ((100 ^ k : Nat) : Int)) : z.toNat < 100 ^ k := by omega
set_option maxRecDepth 10000 in
theorem rd_body {r : Rc} (h : r.Fit) : rdR (bodyR r) = r ∧ rdW (bodyR r) = false := by
  obtain ⟨f0, f1, f2, fa, fb, f5, f6, f7, f8, f10⟩ := body_at r
  have g0 := de_is (k := 1) (by omega) (by omega) h.n0.1 (pow_lt h.n0.1 h.n0.2 (by decide))
  have g1 := de_is (k := 5) (by omega) (by omega) h.n1.1 (pow_lt h.n1.1 h.n1.2 (by decide))
  have g5 := de_is (k := 6) (by omega) (by omega) h.n5.1 (pow_lt h.n5.1 h.n5.2 (by decide))
  have g6 := de_is (k := 7) (by omega) (by omega) h.n6.1 (pow_lt h.n6.1 h.n6.2 (by decide))
  have g7 := de_is (k := 5) (by omega) (by omega) h.n7.1 (pow_lt h.n7.1 h.n7.2 (by decide))
  have g8 := de_is (k := 1) (by omega) (by omega) h.n8.1 (pow_lt h.n8.1 h.n8.2 (by decide))
  have g10 := de_is (k := 2) (by omega) (by omega) h.n10.1 (pow_lt h.n10.1 h.n10.2 (by decide))
  have ta := ph_all h.la
  have tb := ph_all h.lb
  obtain ⟨k1, k2, k3, k4⟩ := kb_back h
  constructor
  · unfold rdR
    rw [f0, f1, f2, fa, fb, f5, f6, f7, f8, f10, g0, g1, g5, g6, g7, g8, g10, ta, tb, k1, k3, k4]
    simp only [strB_back]
  · unfold rdW
    rw [f0, f1, f2, fa, fb, f5, f6, f7, f8, f10, bad_no g0, bad_no g1, bad_no g5, bad_no g6, bad_no g7, bad_no g8, bad_no g10, ta, tb, decide_eq_false (by omega)]
    rfl
theorem enc_len (r : Rc) : (encP r).length = 45 := by simp [encP, body_len]
theorem dec_enc {r : Rc} (h : chkR r = 0) : decP (encP r) = (r, 0) := by
  have hf := chk_fit h
  obtain ⟨e1, e2⟩ := rd_body hf
  have hl := enc_len r
  have ht : (encP r).take 44 = bodyR r := by unfold encP; rw [← body_len r]; exact List.take_left
  have hg : (encP r).getD 44 0 = smL (bodyR r) := by
    unfold encP
    rw [List.getD_eq_getElem?_getD, List.getElem?_append_right (by rw [body_len]; decide), body_len]
    simp
  unfold decP
  rw [if_neg (by omega), if_neg (by omega), ht, hg, if_neg (fun hh => hh rfl), e2, e1, h]
  rfl
/-- The sum of bytes, and what a replaced byte makes of it. -/
theorem sm_sum : ∀ (l : List Int) (a : Int), 0 ≤ a → a ≤ 255 → l.foldl (fun a x => (a + x) % 256) a = (a + l.sum) % 256
  | [], a, h0, h1 => by simp; omega
  | x :: t, a, h0, h1 => by
    rw [List.foldl_cons, sm_sum t _ (by omega) (by omega), List.sum_cons]
    omega
theorem sm_is (l : List Int) : smL l = l.sum % 256 := by unfold smL; rw [sm_sum l 0 (by omega) (by omega), Int.zero_add]
theorem sum_set : ∀ (l : List Int) (i : Nat) (x y : Int), l[i]? = some y → (l.set i x).sum = l.sum - y + x
  | [], i, x, y, h => by cases h
  | z :: t, 0, x, y, h => by
    obtain rfl : z = y := by simpa using h
    simp; omega
  | z :: t, i + 1, x, y, h => by
    rw [List.set_cons_succ, List.sum_cons, List.sum_cons, sum_set t i x y (by simpa using h)]
    omega
theorem dec_set {r : Rc} {i : Nat} {x y : Int} (hi : (encP r)[i]? = some y) (hy0 : 0 ≤ y) (hy1 : y ≤ 255) (h0 : 0 ≤ x) (h1 : x ≤ 255) (hne : y ≠ x) : decP ((encP r).set i x) = (rcZ, 4) := by
  have hl := enc_len r
  have hil : i < 45 := by rw [← hl]; exact (List.getElem?_eq_some_iff.1 hi).1
  have hbl := body_len r
  have hset : ((encP r).set i x).length = 45 := by rw [List.length_set, hl]
  have key : ((encP r).set i x).getD 44 0 ≠ smL (((encP r).set i x).take 44) := by
    rw [List.take_set]
    have ht : (encP r).take 44 = bodyR r := by unfold encP; rw [← body_len r]; exact List.take_left
    rw [ht]
    have h44 : (encP r)[44]? = some (smL (bodyR r)) := by
      unfold encP
      rw [List.getElem?_append_right (by rw [hbl]; decide), hbl]; simp
    by_cases hi44 : i = 44
    · subst hi44
      rw [h44] at hi
      obtain rfl := Option.some.inj hi
      rw [List.getD_eq_getElem?_getD, List.getElem?_set_self (by omega), List.set_eq_of_length_le (by omega)]
      exact fun e => hne (show smL (bodyR r) = x from e.symm)
    · have hib : (bodyR r)[i]? = some y := by
        have hi2 : i < (bodyR r).length := by rw [hbl]; omega
        unfold encP at hi
        rw [List.getElem?_append_left hi2] at hi
        exact hi
      rw [List.getD_eq_getElem?_getD, List.getElem?_set_ne hi44, h44, sm_is, sm_is, sum_set _ _ _ _ hib]
      rw [Option.getD_some]
      omega
  unfold decP
  rw [if_neg (by rw [hset]; decide), if_neg (by rw [hset]; decide), if_pos key]
/-- The numbers' way back. -/
theorem pd_snoc (n : Nat) : ∀ k, pdL n (k + 1) = pdL (n / 100) k ++ [(pdD n : Int)]
  | 0 => by simp [pdL]
  | k + 1 => by
    show (pdD (n / 100 ^ (k + 1)) : Int) :: pdL n (k + 1) = _
    rw [pd_snoc n k]
    show _ = (pdD (n / 100 / 100 ^ k) : Int) :: pdL (n / 100) k ++ [(pdD n : Int)]
    rw [Nat.div_div_eq_div_mul, Nat.pow_succ, Nat.mul_comm (100 ^ k) 100]
    rfl
theorem pd_de : ∀ (k : Nat) (l : List Int), l.length = k → l.all bdB = true → (∀ x ∈ l, 0 ≤ x ∧ x ≤ 255) → 0 ≤ deN l ∧ pdL (deN l).toNat k = l
  | 0, l, hl, _, _ => by
    obtain rfl := List.length_eq_zero_iff.1 hl
    exact ⟨by simp [deN], rfl⟩
  | k + 1, l, hl, hb, hr => by
    rcases List.eq_nil_or_concat l with rfl | ⟨t, x, rfl⟩
    · simp at hl
    · have ht : t.length = k := by simpa using hl
      rw [List.concat_eq_append] at hb hr ⊢
      rw [List.all_append, Bool.and_eq_true] at hb
      obtain ⟨i1, i2⟩ := pd_de k t ht hb.1 (fun y hy => hr y (List.mem_append_left _ hy))
      have hx := hr x (by simp)
      have hbx : bdB x = true := by simpa using hb.2
      unfold bdB at hbx
      rw [Bool.and_eq_true, decide_eq_true_eq, decide_eq_true_eq] at hbx
      rw [de_snoc]
      refine ⟨by omega, ?_⟩
      obtain ⟨D, hD⟩ := Int.eq_ofNat_of_zero_le i1
      rw [hD, Int.toNat_natCast] at i2
      obtain ⟨X, rfl⟩ := Int.eq_ofNat_of_zero_le hx.1
      rw [pd_snoc, hD]
      have hN : ((D : Int) * 100 + (X : Int) / 16 * 10 + (X : Int) % 16).toNat = D * 100 + X / 16 * 10 + X % 16 := by omega
      rw [hN]
      have e1 : (D * 100 + X / 16 * 10 + X % 16) / 100 = D := by omega
      have e2 : pdD (D * 100 + X / 16 * 10 + X % 16) = X := by unfold pdD; omega
      rw [e1, e2, i2]
theorem de_ok {l : List Int} {k : Nat} (hl : l.length = k) (h : bad l = false) (hr : ∀ x ∈ l, 0 ≤ x ∧ x ≤ 255) : pdL (deL l).1.toNat k = l := by
  have h2 := bad_de h
  unfold deL at h2 ⊢
  split at h2
  · cases h2
  · rename_i h9
    rw [if_neg h9]
    split at h2
    · rename_i hb
      rw [if_pos hb]
      exact (pd_de k l hl hb hr).2
    · cases h2
end Go.Proofs.Ytblhpbheejemnaa
