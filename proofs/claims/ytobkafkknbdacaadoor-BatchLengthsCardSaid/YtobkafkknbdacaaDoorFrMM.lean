/- Pure mathematics: frames are found again; bytes that end anywhere; a changed byte. -/
import Derived.Test.YtobkafkknbdacaaDoorFrA
namespace Go.Proofs.YtobkafkknbdacaaDoor

theorem num_ran {p : List Int} (hp : p.length ≤ 1048576) : -9223372036854775808 ≤ ((p.length : Nat) : Int) ∧ ((p.length : Nat) : Int) ≤ 9223372036854775807 := by omega
/-- A frame is cut off, whatever follows. -/
theorem cutR_frm (p t : List Int) (hp : p.length ≤ 1048576) : cutR (frm p ++ t) = (p, (t, 0)) := by
  have hn := numR_back (p.length : Int) (be4 (fnv p) ++ (p ++ t)) (num_ran hp).1 (num_ran hp).2
  have e : frm p ++ t = numE p.length ++ (be4 (fnv p) ++ (p ++ t)) := by simp [frm]
  have h1 : ¬ (((p.length : Nat) : Int) < 0) := by omega
  have h2 : ¬ (1048576 < ((p.length : Nat) : Int)) := by omega
  have h3 : ¬ ((((be4 (fnv p) ++ (p ++ t)).length : Nat) : Int) < 4 + ((p.length : Nat) : Int)) := by
    simp only [List.length_append, be4_len]; omega
  have h4 : de4 (be4 (fnv p) ++ (p ++ t)) = (fnv p : Int) := de4_be4 _ (fnv_lt p) _
  have h5 : (be4 (fnv p) ++ (p ++ t)).drop 4 = p ++ t := rfl
  have h6 : (be4 (fnv p) ++ (p ++ t)).drop (4 + p.length) = t := by
    rw [← List.drop_drop, h5]; simp
  rw [e]
  unfold cutR
  rw [hn]
  simp only [if_true, h1, h2, h3, if_false, h4, Int.toNat_natCast, h5, h6]
  rw [List.take_left, if_pos rfl]
/-- A part of a frame that is not all of it is truncated. -/
theorem cutR_cut (p : List Int) (k : Nat) (hp : p.length ≤ 1048576) (hk : k < (frm p).length) : cutR ((frm p).take k) = ([], ([], 2)) := by
  rcases Nat.lt_or_ge k (numE p.length).length with h | h
  · have e : (frm p).take k = (numE p.length).take k := by
      rw [frm, List.take_append_of_le_length (by omega)]
    have hn := numR_cut (p.length : Int) k (num_ran hp).1 (num_ran hp).2 h
    rw [e]
    unfold cutR
    rw [hn]
    simp
  · have e : (frm p).take k = numE p.length ++ (be4 (fnv p) ++ p).take (k - (numE p.length).length) := by
      rw [frm, List.take_append, List.take_of_length_le h]
    have hn := numR_back (p.length : Int) ((be4 (fnv p) ++ p).take (k - (numE p.length).length)) (num_ran hp).1 (num_ran hp).2
    have h1 : ¬ (((p.length : Nat) : Int) < 0) := by omega
    have h2 : ¬ (1048576 < ((p.length : Nat) : Int)) := by omega
    have h3 : (((((be4 (fnv p) ++ p).take (k - (numE p.length).length)).length : Nat) : Int) < 4 + ((p.length : Nat) : Int)) := by
      rw [List.length_take]
      simp only [frm, List.length_append, be4_len] at hk ⊢
      omega
    rw [e]
    unfold cutR
    rw [hn]
    simp only [if_true, h1, h2, h3, if_false]
theorem cutR_nil : cutR [] = ([], ([], 2)) := by decide +kernel
theorem allF_fuel : ∀ (k : Nat) (b : List Int), b.length < k → allF k b = allR b := by
  intro k
  induction k using Nat.strongRecOn with
  | ind k ih =>
    intro b hb
    obtain ⟨k', rfl⟩ : ∃ k', k = k' + 1 := ⟨k - 1, by omega⟩
    unfold allR
    simp only [allF]
    split
    · rename_i h
      have hl := cutR_len h
      rw [ih k' (by omega) _ (by omega)]
      rcases Nat.lt_or_ge b.length k' with h2 | h2
      · rw [ih b.length (by omega) _ (by omega)]
      · obtain rfl : b.length = k' := by omega
        rw [ih b.length (by omega) _ (by omega)]
    · rfl
theorem allR_step {b : List Int} (h : (cutR b).2.2 = 0) : allR b = ((cutR b).1 :: (allR (cutR b).2.1).1, (allR (cutR b).2.1).2) := by
  have hl := cutR_len h
  rw [← allF_fuel b.length (cutR b).2.1 (by omega)]
  show allF (b.length + 1) b = _
  rw [allF, if_pos h]
theorem allR_stop {b : List Int} (h : (cutR b).2.2 ≠ 0) : allR b = ([], b) := by
  show allF (b.length + 1) b = _
  rw [allF, if_neg h]
theorem allR_join (t : List Int) : ∀ (ps : List (List Int)), (∀ p ∈ ps, p.length ≤ 1048576) → allR (joinE ps ++ t) = (ps ++ (allR t).1, (allR t).2)
  | [], _ => by simp [joinE]
  | p :: ps, h => by
    have hc := cutR_frm p (joinE ps ++ t) (h p (List.mem_cons_self ..))
    have ih := allR_join t ps (fun q hq => h q (List.mem_cons_of_mem _ hq))
    have e : joinE (p :: ps) ++ t = frm p ++ (joinE ps ++ t) := by simp [joinE]
    rw [e, allR_step (by rw [hc]), hc, ih]
    simp
theorem joinE_app : ∀ (a b : List (List Int)), joinE (a ++ b) = joinE a ++ joinE b
  | [], b => rfl
  | p :: a, b => by simp [joinE, joinE_app a b]
theorem frm_pos (p : List Int) : 0 < (frm p).length := by
  simp only [frm, List.length_append, be4_len]; omega

/-- A step of the checksum is one to one. -/
theorem mul_back (x : Nat) (hx : x < 4294967296) : ((x * 16777619) % 4294967296 * 899433627) % 4294967296 = x := by
  rw [Nat.mul_mod ((x * 16777619) % 4294967296), Nat.mod_mod, ← Nat.mul_mod, Nat.mul_assoc, show 16777619 * 899433627 = 1 + 4294967296 * 3513497 by decide, Nat.mul_add, Nat.mul_one,
    Nat.mul_left_comm, Nat.add_mul_mod_self_left, Nat.mod_eq_of_lt hx]
theorem mul_inj {a b : Nat} (ha : a < 4294967296) (hb : b < 4294967296) (h : (a * 16777619) % 4294967296 = (b * 16777619) % 4294967296) : a = b := by
  have h1 := mul_back a ha
  rw [h, mul_back b hb] at h1
  exact h1.symm
theorem xor_right {a b c : Nat} (h : a ^^^ c = b ^^^ c) : a = b := by
  have : (a ^^^ c) ^^^ c = (b ^^^ c) ^^^ c := by rw [h]
  simpa [Nat.xor_assoc] using this
theorem xor_left {a b c : Nat} (h : a ^^^ b = a ^^^ c) : b = c := by
  rw [Nat.xor_comm a b, Nat.xor_comm a c] at h
  exact xor_right h
theorem xor_lt32 {s : Nat} {x : Int} (hs : s < 4294967296) (h0 : 0 ≤ x) (h1 : x ≤ 255) : s ^^^ x.toNat < 4294967296 :=
  Nat.xor_lt_two_pow (n := 32) hs (by omega)
theorem fstep_seed {s t : Nat} {x : Int} (hs : s < 4294967296) (ht : t < 4294967296) (h0 : 0 ≤ x) (h1 : x ≤ 255) (h : fstep s x = fstep t x) : s = t :=
  xor_right (mul_inj (xor_lt32 hs h0 h1) (xor_lt32 ht h0 h1) h)
theorem fstep_byte {s : Nat} {x y : Int} (hs : s < 4294967296) (h0 : 0 ≤ x) (h1 : x ≤ 255) (g0 : 0 ≤ y) (g1 : y ≤ 255) (h : fstep s x = fstep s y) : x = y := by
  have := xor_left (mul_inj (xor_lt32 hs h0 h1) (xor_lt32 hs g0 g1) h)
  omega
theorem fnvF_seed : ∀ (l : List Int) (s t : Nat), s < 4294967296 → t < 4294967296 → (∀ x ∈ l, 0 ≤ x ∧ x ≤ 255) → fnvF s l = fnvF t l → s = t
  | [], s, t, _, _, _, h => h
  | x :: l, s, t, hs, ht, hr, h => by
    have hx := hr x (List.mem_cons_self ..)
    rw [fnvF_cons, fnvF_cons] at h
    exact fstep_seed hs ht hx.1 hx.2 (fnvF_seed l _ _ (fstep_lt _ _) (fstep_lt _ _) (fun y hy => hr y (List.mem_cons_of_mem _ hy)) h)
theorem fnvF_set : ∀ (l : List Int) (s k : Nat) (y : Int), s < 4294967296 → (∀ x ∈ l, 0 ≤ x ∧ x ≤ 255) → 0 ≤ y → y ≤ 255 → (hk : k < l.length) → fnvF s (l.set k y) = fnvF s l → l[k] = y
  | [], s, k, y, _, _, _, _, hk, _ => by simp at hk
  | x :: l, s, 0, y, hs, hr, h0, h1, _, h => by
    have hx := hr x (List.mem_cons_self ..)
    rw [List.set_cons_zero, fnvF_cons, fnvF_cons] at h
    have := fnvF_seed l _ _ (fstep_lt _ _) (fstep_lt _ _) (fun y hy => hr y (List.mem_cons_of_mem _ hy)) h
    exact (fstep_byte hs h0 h1 hx.1 hx.2 this).symm
  | x :: l, s, k + 1, y, hs, hr, h0, h1, hk, h => by
    rw [List.set_cons_succ, fnvF_cons, fnvF_cons] at h
    have := fnvF_set l _ k y (fstep_lt s x) (fun y hy => hr y (List.mem_cons_of_mem _ hy)) h0 h1 (by simpa using hk) h
    simpa using this
theorem de4_four (a b c d : Int) (t : List Int) : de4 (a :: b :: c :: d :: t) = a * 16777216 + b * 65536 + c * 256 + d := by simp [de4]
/-- A frame one of whose bytes behind the length is another one is refused. -/
theorem cutR_set (p : List Int) (k : Nat) (y : Int) (hp : p.length ≤ 60) (hr : ∀ x ∈ p, 0 ≤ x ∧ x ≤ 255) (h0 : 0 ≤ y) (h1 : y ≤ 255) (hk1 : 1 ≤ k) (hk : k < (frm p).length) (hy : (frm p)[k] ≠ y) :
    cutR ((frm p).set k y) = ([], ([], 4)) := by
  have hn1 : numE p.length = [2 * (p.length : Int)] := by
    have hz : zig (p.length : Int) = 2 * p.length := by unfold zig; split <;> omega
    rw [numE, hz, grp_small (by omega)]; simp
  have hfr : frm p = 2 * (p.length : Int) :: (be4 (fnv p) ++ p) := by rw [frm, hn1]; rfl
  obtain ⟨j, rfl⟩ : ∃ j, k = j + 1 := ⟨k - 1, by omega⟩
  have hset : (frm p).set (j + 1) y = numE p.length ++ (be4 (fnv p) ++ p).set j y := by rw [hfr, hn1]; rfl
  have hlen : (frm p).length = 5 + p.length := by rw [hfr]; simp [be4_len]; omega
  have hyj : (be4 (fnv p) ++ p)[j]'(by simp [be4_len]; omega) ≠ y := by
    intro e; apply hy
    rw [← e]
    simp only [hfr, List.getElem_cons_succ]
  have hnum := numR_back (p.length : Int) ((be4 (fnv p) ++ p).set j y) (num_ran (by omega)).1 (num_ran (by omega)).2
  have g1 : ¬ (((p.length : Nat) : Int) < 0) := by omega
  have g2 : ¬ (1048576 < ((p.length : Nat) : Int)) := by omega
  have g3 : ¬ (((((be4 (fnv p) ++ p).set j y).length : Nat) : Int) < 4 + ((p.length : Nat) : Int)) := by
    simp only [List.length_set, List.length_append, be4_len]; omega
  have g4 : de4 ((be4 (fnv p) ++ p).set j y) ≠ fnv ((((be4 (fnv p) ++ p).set j y).drop 4).take p.length) := by
    have hf := fnv_lt p
    rcases Nat.lt_or_ge j 4 with hj | hj
    · have e1 : ((be4 (fnv p) ++ p).set j y) = (be4 (fnv p)).set j y ++ p := by
        rw [List.set_append_left _ _ (by rw [be4_len]; exact hj)]
      have e2 : ((be4 (fnv p)).set j y ++ p).drop 4 = p := by
        rw [List.drop_left' (by rw [List.length_set, be4_len])]
      rw [e1, e2, List.take_length]
      intro h
      have h4 : j = 0 ∨ j = 1 ∨ j = 2 ∨ j = 3 := by omega
      rcases h4 with rfl | rfl | rfl | rfl
      · simp [be4] at hyj; simp only [be4, List.set_cons_zero, List.cons_append, de4_four] at h; omega
      · simp [be4] at hyj; simp only [be4, List.set_cons_succ, List.set_cons_zero, List.cons_append, de4_four] at h; omega
      · simp [be4] at hyj; simp only [be4, List.set_cons_succ, List.set_cons_zero, List.cons_append, de4_four] at h; omega
      · simp [be4] at hyj; simp only [be4, List.set_cons_succ, List.set_cons_zero, List.cons_append, de4_four] at h; omega
    · have hjp : j - 4 < p.length := by rw [hlen] at hk; omega
      have e1 : ((be4 (fnv p) ++ p).set j y) = be4 (fnv p) ++ p.set (j - 4) y := by
        rw [List.set_append_right _ _ (by rw [be4_len]; exact hj), be4_len]
      have e2 : (be4 (fnv p) ++ p.set (j - 4) y).drop 4 = p.set (j - 4) y := List.drop_left' (be4_len _)
      have e3 : (p.set (j - 4) y).take p.length = p.set (j - 4) y := List.take_of_length_le (by simp)
      rw [e1, e2, e3, de4_be4 _ hf]
      intro h
      have h' : fnv (p.set (j - 4) y) = fnv p := by omega
      have := fnvF_set p _ (j - 4) y (by decide) hr h0 h1 hjp h'
      apply hyj
      rw [List.getElem_append_right (by rw [be4_len]; exact hj)]
      simpa [be4_len] using this
  rw [hset]
  unfold cutR
  rw [hnum]
  simp only [if_true, g1, g2, g3, if_false, Int.toNat_natCast]
  rw [if_neg g4]
/-- What a torn row of frames holds. -/
theorem torn_split : ∀ (ps : List (List Int)) (c : Nat), c ≤ (joinE ps).length → (∀ p ∈ ps, p.length ≤ 1048576) → ∃ (k : Nat) (r : List Int), k ≤ ps.length ∧ (joinE ps).take c = joinE (ps.take k) ++ r ∧ cutR r = ([], ([], 2)) ∧
    (∀ p, ps[k]? = some p → r.length < (frm p).length) ∧ (k = ps.length → r = [])
  | [], c, hc, _ => ⟨0, [], Nat.le_refl _, by simp [joinE], cutR_nil, fun p hp => by simp at hp, fun _ => rfl⟩
  | p :: ps, c, hc, h => by
    rcases Nat.lt_or_ge c (frm p).length with hlt | hge
    · refine ⟨0, (frm p).take c, Nat.zero_le _, ?_, cutR_cut p c (h p (List.mem_cons_self ..)) hlt, ?_, ?_⟩
      · simp only [joinE, List.take_zero, List.nil_append]
        rw [List.take_append_of_le_length (by omega)]
      · intro q hq
        simp at hq; subst hq
        rw [List.length_take]; omega
      · intro h0; simp at h0
    · have hc' : c - (frm p).length ≤ (joinE ps).length := by
        simp only [joinE, List.length_append] at hc; omega
      obtain ⟨k, r, h1, h2, h3, h4, h5⟩ := torn_split ps (c - (frm p).length) hc' (fun q hq => h q (List.mem_cons_of_mem _ hq))
      refine ⟨k + 1, r, by simp; omega, ?_, h3, fun q hq => h4 q (by simpa using hq), fun hk => h5 (by simpa using hk)⟩
      simp only [joinE, List.take_succ_cons]
      rw [List.take_append, List.take_of_length_le hge, h2, List.append_assoc]
theorem all_torn {ps : List (List Int)} {k : Nat} {r : List Int} (h : ∀ p ∈ ps, p.length ≤ 1048576) (hr : cutR r = ([], ([], 2))) : allR (joinE (ps.take k) ++ r) = (ps.take k, r) := by
  rw [allR_join _ _ (fun p hp => h p (List.mem_of_mem_take hp)), allR_stop (by rw [hr]; decide)]
  simp
end Go.Proofs.YtobkafkknbdacaaDoor
