/- Mathematics: the record of bytes gives these bytes. -/
import Derived.Test.YtblhpbheejemnaaPkBM
namespace Go.Proofs.Ytblhpbheejemnaa

theorem tx_back {f : List Int} (hc : 0 ≤ cN f) : ∀ k, (txP f k).2 = true → (txP f k).1 = (List.range (min k (cN f).toNat)).map (fun j => 48 + gN f (j + 1)) ∧ ∀ i, 1 ≤ i → i ≤ k → ((i : Int) ≤ cN f → gN f i ≤ 9) ∧ (cN f < i → gN f i = 0)
  | 0, _ => ⟨by rw [Nat.zero_min]; rfl, fun i h1 h2 => by omega⟩
  | k + 1, h => by
    change (txS (cN f) (k + 1) (gN f (k + 1)) (txP f k)).2 = true at h
    show (txS (cN f) (k + 1) (gN f (k + 1)) (txP f k)).1 = _ ∧ _
    unfold txS at h ⊢
    by_cases h1 : ((k + 1 : Nat) : Int) ≤ cN f ∧ gN f (k + 1) ≤ 9
    · rw [if_pos h1] at h ⊢
      obtain ⟨i1, i2⟩ := tx_back hc k h
      refine ⟨?_, fun i g1 g2 => ?_⟩
      · show (txP f k).1 ++ _ = _
        rw [i1, show min k (cN f).toNat = k by omega, show min (k + 1) (cN f).toNat = k + 1 by omega, List.range_succ, List.map_append]
        rfl
      · by_cases hi : i = k + 1
        · subst hi; exact ⟨fun _ => h1.2, fun g => by omega⟩
        · exact i2 i g1 (by omega)
    · rw [if_neg h1] at h ⊢
      by_cases h2 : ((k + 1 : Nat) : Int) ≤ cN f ∨ gN f (k + 1) ≠ 0
      · rw [if_pos h2] at h; cases h
      · rw [if_neg h2] at h ⊢
        obtain ⟨i1, i2⟩ := tx_back hc k h
        have h3 : ¬ ((k + 1 : Nat) : Int) ≤ cN f := fun g => h2 (.inl g)
        have h4 : gN f (k + 1) = 0 := Classical.byContradiction fun g => h2 (.inr g)
        refine ⟨?_, fun i g1 g2 => ?_⟩
        · rw [i1, show min k (cN f).toNat = min (k + 1) (cN f).toNat by omega]
        · by_cases hi : i = k + 1
          · subst hi; exact ⟨fun g => absurd g h3, fun _ => h4⟩
          · exact i2 i g1 (by omega)
theorem ph_back {f : List Int} (hl : f.length = 8) (hr : ∀ x ∈ f, 0 ≤ x ∧ x ≤ 255) (h : (txP f 15).2 = true) : phL (strOfNums (txP f 15).1) = f := by
  have hf : ∀ j, j < 8 → 0 ≤ f.getD j 0 ∧ f.getD j 0 ≤ 255 := fun j hj => by
    rw [List.getD_eq_getElem?_getD, List.getElem?_eq_getElem (by omega)]
    exact hr _ (List.getElem_mem _)
  have hc0 : 0 ≤ cN f ∧ cN f ≤ 15 := by have := hf 0 (by omega); unfold cN; omega
  obtain ⟨e1, e2⟩ := tx_back hc0.1 15 h
  rw [show min 15 (cN f).toNat = (cN f).toNat by omega] at e1
  obtain ⟨n, hn⟩ : ∃ n : Nat, (cN f).toNat = n := ⟨_, rfl⟩
  have hn2 : cN f = n := by omega
  rw [hn] at e1
  have hran := tx_ran f (fun i => (gN_ran hr i).1) 15
  obtain ⟨s, hs⟩ : ∃ s, strOfNums (txP f 15).1 = s := ⟨_, rfl⟩
  have hB : strB s = (List.range n).map (fun j => 48 + gN f (j + 1)) := by rw [← hs, strB_of hran, e1]
  rw [hs]
  have hsz : s.size = n := by rw [← strB_len, hB]; simp
  have key : ∀ k, k ≤ 15 → phA s.data.toList s.size k = gN f k := fun k hk => by
    unfold phA
    by_cases hk0 : k = 0
    · subst hk0
      rw [if_pos rfl, len_data, hsz, ← hn2]
      rfl
    · rw [if_neg hk0]
      by_cases hkn : k ≤ s.size
      · rw [if_pos hkn]
        have hkk : (strB s)[k - 1]? = some (48 + gN f k) := by
          rw [hB, List.getElem?_map, List.getElem?_range (by omega), Option.map_some, show k - 1 + 1 = k by omega]
        unfold strB at hkk
        rw [List.getElem?_map] at hkk
        rw [List.getD_eq_getElem?_getD]
        cases hq : s.data.toList[k - 1]? with
        | none => rw [hq] at hkk; cases hkk
        | some u =>
          rw [hq] at hkk
          have h9 : (u.toNat : Int) = 48 + gN f k := Option.some.inj hkk
          simp only [Option.getD_some]
          omega
      · rw [if_neg hkn]
        exact ((e2 k (by omega) hk).2 (by omega)).symm
  apply List.ext_getElem (by rw [phL_len, hl])
  intro j h1 h2
  have hj : j < 8 := by rw [phL_len] at h1; exact h1
  refine Eq.trans (b := phA s.data.toList s.size (2 * j) * 16 + phA s.data.toList s.size (2 * j + 1)) (phT_at _ _ _ hj) ?_
  rw [key _ (by omega), key _ (by omega)]
  unfold gN
  rw [if_neg (by omega), if_pos (by omega), show 2 * j / 2 = j by omega, show (2 * j + 1) / 2 = j by omega]
  have e4 : f.getD j 0 = f[j] := by rw [List.getD_eq_getElem?_getD, List.getElem?_eq_getElem h2]; rfl
  rw [e4]
  omega
theorem fd_len {T : List Int} (hl : T.length = 44) {a s : Nat} (h : a + s ≤ 44) : (fd T a s).length = s := by unfold fd; simp; omega
theorem fd_ran {T : List Int} (hr : ∀ x ∈ T, 0 ≤ x ∧ x ≤ 255) (a s : Nat) : ∀ x ∈ fd T a s, 0 ≤ x ∧ x ≤ 255 := fun x hx => hr x (List.mem_of_mem_drop (List.mem_of_mem_take hx))
theorem fd_cat (T : List Int) (a s t : Nat) : fd T a s ++ fd T (a + s) t = fd T a (s + t) := by
  unfold fd
  rw [List.take_add, List.drop_drop]
theorem fd_one {T : List Int} {a : Nat} (h : a < T.length) : [T.getD a 0] = fd T a 1 := by
  unfold fd
  rw [List.drop_eq_getElem_cons h, List.getD_eq_getElem?_getD, List.getElem?_eq_getElem h]
  rfl
theorem kb_of {x : Int} (h0 : 0 ≤ x) (h3 : x % 16 ≤ 3) : x / 16 * 16 + (if decide (x % 2 = 1) = true then 1 else 0) + (if decide (x / 2 % 2 = 1) = true then 2 else 0) = x := by
  simp only [decide_eq_true_eq]
  split <;> split <;> omega
theorem rd_back {T : List Int} (hl : T.length = 44) (hr : ∀ x ∈ T, 0 ≤ x ∧ x ≤ 255) (hw : rdW T = false) : bodyR (rdR T) = T := by
  unfold rdW at hw
  simp only [Bool.or_eq_false_iff, Bool.not_eq_false', decide_eq_false_iff_not] at hw
  obtain ⟨⟨⟨⟨⟨⟨⟨⟨⟨⟨-, w0⟩, w1⟩, w6⟩, wa⟩, wb⟩, w5⟩, w7⟩, w8⟩, w9⟩, w10⟩ := hw
  have x6 : 0 ≤ T.getD 6 0 := by
    rw [List.getD_eq_getElem?_getD, List.getElem?_eq_getElem (by omega)]
    exact (hr _ (List.getElem_mem _)).1
  have g0 := de_ok (fd_len hl (a := 0) (s := 1) (by omega)) w0 (fd_ran hr _ _)
  have g1 := de_ok (fd_len hl (a := 1) (s := 5) (by omega)) w1 (fd_ran hr _ _)
  have g5 := de_ok (fd_len hl (a := 23) (s := 6) (by omega)) w5 (fd_ran hr _ _)
  have g6 := de_ok (fd_len hl (a := 29) (s := 7) (by omega)) w7 (fd_ran hr _ _)
  have g7 := de_ok (fd_len hl (a := 36) (s := 5) (by omega)) w8 (fd_ran hr _ _)
  have g8 := de_ok (fd_len hl (a := 41) (s := 1) (by omega)) w9 (fd_ran hr _ _)
  have g10 := de_ok (fd_len hl (a := 42) (s := 2) (by omega)) w10 (fd_ran hr _ _)
  have ga := ph_back (fd_len hl (a := 7) (s := 8) (by omega)) (fd_ran hr _ _) wa
  have gb := ph_back (fd_len hl (a := 15) (s := 8) (by omega)) (fd_ran hr _ _) wb
  have gk : kbR (rdR T) = T.getD 6 0 := kb_of x6 (by omega)
  unfold bodyR
  rw [gk, fd_one (a := 6) (by omega)]
  unfold rdR
  simp only []
  rw [g0, g1, g5, g6, g7, g8, g10, ga, gb]
  rw [fd_cat T 0 1 5, fd_cat T 0 (1 + 5) 1, fd_cat T 0 (1 + 5 + 1) 8, fd_cat T 0 (1 + 5 + 1 + 8) 8, fd_cat T 0 (1 + 5 + 1 + 8 + 8) 6, fd_cat T 0 (1 + 5 + 1 + 8 + 8 + 6) 7, fd_cat T 0 (1 + 5 + 1 + 8 + 8 + 6 + 7) 5, fd_cat T 0 (1 + 5 + 1 + 8 + 8 + 6 + 7 + 5) 1, fd_cat T 0 (1 + 5 + 1 + 8 + 8 + 6 + 7 + 5 + 1) 2]
  unfold fd
  rw [List.drop_zero, List.take_of_length_le (by omega)]
theorem enc_dec {b : List Int} (hr : ∀ x ∈ b, 0 ≤ x ∧ x ≤ 255) {q : Rc} (h : decP b = (q, 0)) : b.length = 45 ∧ chkR q = 0 ∧ encP q = b := by
  unfold decP at h
  split at h
  · exact absurd (Prod.mk.inj h).2 (by decide)
  · split at h
    · exact absurd (Prod.mk.inj h).2 (by decide)
    · split at h
      · exact absurd (Prod.mk.inj h).2 (by decide)
      · rename_i h3
        split at h
        · exact absurd (Prod.mk.inj h).2 (by decide)
        · rename_i hw
          split at h
          · rename_i hc
            exact absurd (Prod.mk.inj h).2 hc
          · rename_i hc
            obtain ⟨rfl, -⟩ := Prod.mk.inj h
            have hl : b.length = 45 := by omega
            have hT : (b.take 44).length = 44 := by rw [List.length_take]; omega
            have hb := rd_back hT (fun x hx => hr x (List.mem_of_mem_take hx)) (Bool.not_eq_true _ ▸ hw)
            refine ⟨hl, Classical.not_not.1 hc, ?_⟩
            unfold encP
            rw [hb, ← Classical.not_not.1 h3, List.getD_eq_getElem?_getD, List.getElem?_eq_getElem (show 44 < b.length by omega)]
            conv => rhs; rw [← List.take_append_drop 44 b, List.drop_eq_getElem_cons (show 44 < b.length by omega), List.drop_eq_nil_of_le (by omega)]
            rfl
end Go.Proofs.Ytblhpbheejemnaa
