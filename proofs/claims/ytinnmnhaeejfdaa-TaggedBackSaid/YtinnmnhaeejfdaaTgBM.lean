/- Plain facts: a record is recovered from its bytes, and the bytes from the record. -/
import Derived.Test.YtinnmnhaeejfdaaTgDecM
import Derived.Test.YtinnmnhaeejfdaaTgLB
import Derived.Test.YtinnmnhaeejfdaaTgREn
import Derived.Test.YtinnmnhaeejfdaaTgEnc
import Derived.Test.YtinnmnhaeejfdaaDigBackM
namespace Go.Proofs.Ytinnmnhaeejfdaa
open Go.RowKit

theorem shE_head {n : Nat} (h : n ≠ 0) : (shE n).headD 0 ≠ 0 := by
  have hl : 0 < (shE n).length := by rw [shE_pos h]; simp
  have ha := shE_at (n := n) (i := 0) hl
  have h1 : 0 < n / 256 ^ ((shE n).length - 1) := shE_more.2 (by omega)
  have h2 : ¬ 0 < n / 256 ^ ((shE n).length) := fun h => absurd (shE_more.1 h) (by omega)
  have h3 : n / 256 ^ ((shE n).length - 1) / 256 = n / 256 ^ (shE n).length := by
    rw [Nat.div_div_eq_div_mul, ← Nat.pow_succ]
    congr 2
    omega
  rw [List.headD_eq_head?_getD, List.head?_eq_getElem?, ha]
  simp only [Option.getD_some, Nat.sub_zero]
  rw [← h3] at h2
  generalize n / 256 ^ ((shE n).length - 1) = q at *
  omega
theorem numD_sh (n : Nat) : numD (shE n) = n := by
  induction n using Nat.strongRecOn with
  | ind n ih =>
    by_cases h : n = 0
    · subst h; rw [shE_zero]; rfl
    · rw [shE_pos h, numD_snoc, ih (n / 256) (by omega)]; omega
theorem sh_ok {n : Nat} (h : n ≠ 0) (hn : n ≤ 1099511627776) : numOk (shE n) = true := by
  have hl : 0 < (shE n).length := by rw [shE_pos h]; simp
  have hl6 : (shE n).length ≤ 6 := by
    refine Nat.le_of_not_lt fun hc => ?_
    have := shE_more.2 hc
    have h6 : (256 : Nat) ^ 6 = 281474976710656 := rfl
    rw [h6] at this
    omega
  have hh := shE_head h
  simp only [numOk, Bool.and_eq_true, decide_eq_true_eq, Bool.not_eq_true', decide_eq_false_iff_not]
  exact ⟨⟨by omega, hl6⟩, hh⟩
theorem sh_num : ∀ (k : Nat) (v : List Int), v.length = k + 1 → v.headD 0 ≠ 0 → (∀ x ∈ v, 0 ≤ x ∧ x ≤ 255) → 0 < numD v ∧ shE (numD v).toNat = v
  | 0, [x], _, h0, hr => by
    have hx := hr x (by simp)
    have h0 : x ≠ 0 := h0
    have e : numD [x] = x := by simp [numD]
    rw [e]
    refine ⟨by omega, ?_⟩
    rw [shE_pos (by omega), show x.toNat / 256 = 0 by omega, shE_zero, show ((x.toNat % 256 : Nat) : Int) = x by omega]
    rfl
  | k + 1, v, hl, h0, hr => by
    obtain ⟨u, x, rfl⟩ : ∃ u x, v = u ++ [x] := ⟨v.dropLast, v.getLast (by intro e; simp [e] at hl), (List.dropLast_concat_getLast _).symm⟩
    have hul : u.length = k + 1 := by simpa using hl
    have hx := hr x (by simp)
    have hh : u.headD 0 ≠ 0 := by
      cases u with
      | nil => simp at hul
      | cons a t => simpa using h0
    obtain ⟨h1, h2⟩ := sh_num k u hul hh (fun y hy => hr y (by simp [hy]))
    rw [numD_snoc]
    refine ⟨by omega, ?_⟩
    rw [shE_pos (by omega), show (numD u * 256 + x).toNat / 256 = (numD u).toNat by omega, h2, show (((numD u * 256 + x).toNat % 256 : Nat) : Int) = x by omega]
theorem ok_num {v : List Int} (h : numOk v = true) (hr : ∀ x ∈ v, 0 ≤ x ∧ x ≤ 255) : v ≠ [] ∧ shE (numD v).toNat = v := by
  simp only [numOk, Bool.and_eq_true, decide_eq_true_eq, Bool.not_eq_true', decide_eq_false_iff_not] at h
  obtain ⟨⟨h1, -⟩, h2⟩ := h
  refine ⟨fun e => by subst e; simp at h1, (sh_num (v.length - 1) v (by omega) h2 hr).2⟩
theorem unp_at (zs : List Int) (n : Nat) : ∀ m, m ≤ n → ∀ k, k < m → (unpTo zs n m)[2 * k]? = some (b8 (48 + zs[k]?.getD 0 / 16)) ∧ (unpTo zs n m)[2 * k + 1]? = if noLow (zs[k]?.getD 0) n k then none else some (b8 (48 + zs[k]?.getD 0 % 16))
  | 0, _, k, h => absurd h (Nat.not_lt_zero k)
  | m + 1, hm, k, hk => by
    have hlen : (unpTo zs n m).length = 2 * m := by
      have h1 := unpTo_length zs n m
      have h2 := (unpTo_low zs n m (by omega)).2 (by omega)
      omega
    by_cases hkm : k < m
    · obtain ⟨h1, h2⟩ := unp_at zs n m (by omega) k hkm
      simp only [unpTo]
      rw [List.getElem?_append_left (by omega), List.getElem?_append_left (by omega)]
      exact ⟨h1, h2⟩
    · obtain rfl : k = m := by omega
      simp only [unpTo]
      rw [List.getElem?_append_right (by omega), List.getElem?_append_right (by omega), hlen, Nat.sub_self, show 2 * k + 1 - 2 * k = 1 by omega]
      refine ⟨rfl, ?_⟩
      cases noLow (zs[k]?.getD 0) n k <;> rfl
theorem pk_unp {zs : List Int} (hr : ∀ x ∈ zs, 0 ≤ x ∧ x ≤ 255) (h : unpE zs = 0) : pkE (S (unpL zs)) = zs ∧ zs ≠ [] := by
  have h' : zs.length ≤ 8 ∧ numB (unpTo zs zs.length zs.length) = true := by
    unfold unpE at h
    split at h
    · rename_i hc; simpa using hc
    · exact absurd h (by decide)
  obtain ⟨h8, hn⟩ := h'
  rw [(unp_good h8 hn).1]
  have hat := unp_at zs zs.length zs.length (Nat.le_refl _)
  have hl1 := unpTo_length zs zs.length zs.length
  have hl2 := (unpTo_low zs zs.length zs.length (Nat.le_refl _)).1
  obtain ⟨l, hl⟩ : ∃ l, unpTo zs zs.length zs.length = l := ⟨_, rfl⟩
  rw [hl] at hn hat hl1 hl2 ⊢
  have hn' := hn
  simp only [numB, Bool.and_eq_true, decide_eq_true_eq] at hn'
  obtain ⟨⟨hp, -⟩, hd⟩ := hn'
  have hne : zs ≠ [] := fun e => by subst e; simp at hl1; rw [hl1] at hp; simp at hp
  refine ⟨?_, hne⟩
  have hS : (S l).data.toList = l := by simp [S]
  have hsz : (S l).size = l.length := by simp [S, ByteArray.size]
  unfold pkE
  rw [hS, hsz, if_pos hn, show (l.length + 1) / 2 = zs.length by omega]
  refine List.ext_getElem (by simp) fun k h1 h2 => ?_
  simp only [List.getElem_map, List.getElem_range]
  have hk : k < zs.length := h2
  obtain ⟨g0, g1⟩ := hat k hk
  have hz := hr _ (List.getElem_mem hk)
  have e : zs[k]?.getD 0 = zs[k] := by rw [List.getElem?_eq_getElem hk]; rfl
  rw [e] at g0 g1
  obtain ⟨z, hzz⟩ : ∃ z, zs[k] = z := ⟨_, rfl⟩
  rw [hzz] at g0 g1 hz ⊢
  obtain ⟨i0, g0⟩ := List.getElem?_eq_some_iff.1 g0
  rw [pk_eq i0, g0, b8_toNat (by omega) (by omega)]
  by_cases hc : 2 * k + 1 < l.length
  · rw [dif_pos hc]
    rw [List.getElem?_eq_getElem hc] at g1
    cases hnl : noLow z zs.length k with
    | true => rw [hnl] at g1; cases g1
    | false =>
      rw [hnl] at g1
      rw [Option.some.inj g1, b8_toNat (by omega) (by omega)]
      omega
  · rw [dif_neg hc]
    cases hnl : noLow z zs.length k with
    | true =>
      simp [noLow] at hnl
      omega
    | false =>
      rw [hnl] at g1
      rw [List.getElem?_eq_none (by omega)] at g1
      cases g1
theorem sh_one {f : Int} (h0 : 1 ≤ f) (h1 : f ≤ 255) : shE f.toNat = [f] := by
  have := (sh_num 0 [f] rfl (by simp; omega) (by simp; omega)).2
  have e : numD [f] = f := by simp [numD]
  rwa [e] at this
/-- Setting a field sets its element. -/
theorem set_vals {r r1 : Rc} {t : Int} {v : List Int} (hr : ∀ x ∈ v, 0 ≤ x ∧ x ≤ 255) (h : setM r t v = some r1) : ∃ k : Nat, t = k ∧ 1 ≤ k ∧ k ≤ 11 ∧ v ≠ [] ∧ valsE r1 = (valsE r).set k v := by
  unfold setM at h
  by_cases c4 : t = 4
  · rw [if_pos c4] at h
    by_cases hu : unpE v = 0
    · rw [if_pos hu] at h
      obtain rfl := Option.some.inj h
      obtain ⟨h1, h2⟩ := pk_unp hr hu
      exact ⟨4, c4, by decide, by decide, h2, by simp [valsE, h1, flg]⟩
    · rw [if_neg hu] at h; cases h
  rw [if_neg c4] at h
  by_cases c5 : t = 5
  · rw [if_pos c5] at h
    by_cases hu : unpE v = 0
    · rw [if_pos hu] at h
      obtain rfl := Option.some.inj h
      obtain ⟨h1, h2⟩ := pk_unp hr hu
      exact ⟨5, c5, by decide, by decide, h2, by simp [valsE, h1, flg]⟩
    · rw [if_neg hu] at h; cases h
  rw [if_neg c5] at h
  by_cases c11 : t = 11
  · rw [if_pos c11] at h
    by_cases hu : v.length = 1 ∧ 1 ≤ v.headD 0 ∧ v.headD 0 ≤ 3
    · rw [if_pos hu] at h
      obtain rfl := Option.some.inj h
      obtain ⟨hl, h1, h3⟩ := hu
      obtain ⟨f, rfl⟩ : ∃ f, v = [f] := by
        match v, hl with
        | [f], _ => exact ⟨f, rfl⟩
      have h1 : 1 ≤ f := h1
      have h3 : f ≤ 3 := h3
      refine ⟨11, c11, by decide, by decide, by simp, ?_⟩
      have hf : f = 1 ∨ f = 2 ∨ f = 3 := by omega
      have hs := sh_one h1 (by omega)
      rcases hf with rfl | rfl | rfl <;> simp [valsE, flg] <;> exact hs
    · rw [if_neg hu] at h; cases h
  rw [if_neg c11] at h
  cases hok : numOk v with
  | false => rw [hok] at h; cases h
  | true =>
    obtain ⟨hne, hs⟩ := ok_num hok hr
    rw [hok, if_pos rfl] at h
    by_cases c1 : t = 1
    · rw [if_pos c1] at h; obtain rfl := Option.some.inj h
      exact ⟨1, c1, by decide, by decide, hne, by simp [valsE, hs, flg]⟩
    rw [if_neg c1] at h
    by_cases c2 : t = 2
    · rw [if_pos c2] at h; obtain rfl := Option.some.inj h
      exact ⟨2, c2, by decide, by decide, hne, by simp [valsE, hs, flg]⟩
    rw [if_neg c2] at h
    by_cases c3 : t = 3
    · rw [if_pos c3] at h; obtain rfl := Option.some.inj h
      exact ⟨3, c3, by decide, by decide, hne, by simp [valsE, hs, flg]⟩
    rw [if_neg c3] at h
    by_cases c6 : t = 6
    · rw [if_pos c6] at h; obtain rfl := Option.some.inj h
      exact ⟨6, c6, by decide, by decide, hne, by simp [valsE, hs, flg]⟩
    rw [if_neg c6] at h
    by_cases c7 : t = 7
    · rw [if_pos c7] at h; obtain rfl := Option.some.inj h
      exact ⟨7, c7, by decide, by decide, hne, by simp [valsE, hs, flg]⟩
    rw [if_neg c7] at h
    by_cases c8 : t = 8
    · rw [if_pos c8] at h; obtain rfl := Option.some.inj h
      exact ⟨8, c8, by decide, by decide, hne, by simp [valsE, hs, flg]⟩
    rw [if_neg c8] at h
    by_cases c9 : t = 9
    · rw [if_pos c9] at h; obtain rfl := Option.some.inj h
      exact ⟨9, c9, by decide, by decide, hne, by simp [valsE, hs, flg]⟩
    rw [if_neg c9] at h
    by_cases c10 : t = 10
    · rw [if_pos c10] at h; obtain rfl := Option.some.inj h
      exact ⟨10, c10, by decide, by decide, hne, by simp [valsE, hs, flg]⟩
    · rw [if_neg c10] at h; cases h
theorem flt_nil : ∀ (ls : List (List Int)) (k : Nat), (∀ l ∈ ls, l = []) → fltE k ls = []
  | [], _, _ => rfl
  | l :: t, k, h => by
    simp only [fltE]
    rw [if_pos (h l (List.mem_cons_self ..))]
    exact flt_nil t (k + 1) fun x hx => h x (List.mem_cons_of_mem _ hx)
theorem flt_skip : ∀ (d : Nat) (ls : List (List Int)) (j : Nat), (∀ i, i < d → ls[i]? = some []) → fltE j ls = fltE (j + d) (ls.drop d)
  | 0, ls, j, _ => rfl
  | d + 1, [], j, h => by have := h 0 (by omega); simp at this
  | d + 1, l :: t, j, h => by
    have h0 : l = [] := by have := h 0 (by omega); simpa using this
    simp only [fltE, if_pos h0, List.drop_succ_cons]
    rw [flt_skip d t (j + 1) (fun i hi => by have := h (i + 1) (by omega); simpa using this)]
    congr 1
    omega
theorem rec_vals : ∀ (es : List El) (p : Nat) (r0 r : Rc), (∀ e ∈ es, ∀ x ∈ e.2, 0 ≤ x ∧ x ≤ 255) → bldE es p = 0 → recM r0 es = some r → (∀ k, p < k → (valsE r0)[k]?.getD [] = []) →
    (∀ i, i ≤ p → (valsE r)[i]? = (valsE r0)[i]?) ∧ fltE (p + 1) ((valsE r).drop (p + 1)) = es
  | [], p, r0, r, _, _, h, hz => by
    obtain rfl := Option.some.inj h
    refine ⟨fun _ _ => rfl, flt_nil _ _ fun l hl => ?_⟩
    obtain ⟨i, hi⟩ := List.mem_iff_getElem?.1 hl
    rw [List.getElem?_drop] at hi
    have := hz (p + 1 + i) (by omega)
    rw [hi] at this
    exact this
  | e :: t, p, r0, r, hr, hb, h, hz => by
    simp only [recM] at h
    cases hs : setM r0 e.1 e.2 with
    | none => rw [hs] at h; cases h
    | some r1 =>
      rw [hs] at h
      obtain ⟨k, hk, hk1, hk11, hne, hv⟩ := set_vals (hr e (List.mem_cons_self ..)) hs
      simp only [bldE] at hb
      rw [if_neg (by rw [hk]; omega)] at hb
      by_cases c2 : e.1 ≤ p
      · rw [if_pos c2] at hb; exact absurd hb (by decide)
      rw [if_neg c2] at hb
      by_cases c3 : 255 < (e.2.length : Int)
      · rw [if_pos c3] at hb; exact absurd hb (by decide)
      rw [if_neg c3, hk] at hb
      have hkp : p < k := by omega
      have hlen : ∀ r : Rc, (valsE r).length = 12 := fun _ => rfl
      obtain ⟨i1, i2⟩ := rec_vals t k r1 r (fun e he => hr e (List.mem_cons_of_mem _ he)) hb h (fun j hj => by
        rw [hv, List.getElem?_set_ne (by omega)]
        exact hz j (by omega))
      have hlow : ∀ i, i < k → (valsE r)[i]? = (valsE r0)[i]? := fun i hi => by
        rw [i1 i (by omega), hv, List.getElem?_set_ne (by omega)]
      have hat : (valsE r)[k]? = some e.2 := by
        rw [i1 k (Nat.le_refl _), hv, List.getElem?_set_self (by rw [hlen]; omega)]
      refine ⟨fun i hi => hlow i (by omega), ?_⟩
      rw [flt_skip (k - (p + 1)) _ (p + 1) (fun i hi => ?_)]
      · rw [List.drop_drop, show p + 1 + (k - (p + 1)) = k by omega]
        obtain ⟨hkl, hke⟩ := List.getElem?_eq_some_iff.1 hat
        rw [List.drop_eq_getElem_cons hkl, hke]
        simp only [fltE]
        rw [if_neg hne, i2, ← hk]
      · rw [List.getElem?_drop, hlow _ (by omega)]
        have h1 := hz (p + 1 + i) (by omega)
        have h2 : p + 1 + i < (valsE r0).length := by rw [hlen]; omega
        rw [List.getElem?_eq_getElem h2] at h1 ⊢
        rw [Option.getD_some] at h1
        rw [h1]
theorem pk_empty : pkE ⟨#[]⟩ = [] := by
  unfold pkE
  rw [if_neg (by decide)]
theorem vals_zero : ∀ k : Nat, (valsE rc0)[k]?.getD [] = [] := by
  intro k
  have hv : valsE rc0 = List.replicate 12 [] := by
    simp only [valsE, rc0, flg, pk_empty]
    simp [shE_zero]
  rw [hv, List.getElem?_replicate]
  split <;> rfl
theorem rec_back {es : List El} {r : Rc} (hr : ∀ e ∈ es, ∀ x ∈ e.2, 0 ≤ x ∧ x ≤ 255) (hb : bldE es 0 = 0) (h : recM rc0 es = some r) : fldE r = es := by
  rw [fldE_one]
  exact (rec_vals es 0 rc0 r hr hb h fun k _ => vals_zero k).2
theorem step_num {r0 r1 : Rc} {k : Nat} {n : Int} {ls : List (List Int)} (hn : 0 ≤ n ∧ n ≤ 1099511627776) (h0 : n = 0 → r1 = r0) (h1 : ∀ v, numOk v = true → numD v = n → setM r0 k v = some r1) :
    recM r0 (fltE k (shE n.toNat :: ls)) = recM r1 (fltE (k + 1) ls) := by
  by_cases hz : n = 0
  · rw [h0 hz, hz]
    show recM r0 (fltE k (shE 0 :: ls)) = _
    rw [shE_zero, fltE, if_pos rfl]
  · have hne : shE n.toNat ≠ [] := fun e => by
      have := shE_pos (n := n.toNat) (by omega)
      rw [e] at this
      simp at this
    simp only [fltE, if_neg hne, recM]
    rw [h1 _ (sh_ok (by omega) (by omega)) (by rw [numD_sh]; omega)]
theorem step_pk {r0 r1 : Rc} {k : Nat} {s : ByteArray} {ls : List (List Int)} (hs : numB s.data.toList = true ∨ s = ⟨#[]⟩) (h0 : s = ⟨#[]⟩ → r1 = r0) (h1 : ∀ v, unpE v = 0 → S (unpL v) = s → setM r0 k v = some r1) :
    recM r0 (fltE k (pkE s :: ls)) = recM r1 (fltE (k + 1) ls) := by
  rcases hs with hs | hs
  · have hsz : s.size = s.data.toList.length := (Array.length_toList (xs := s.data)).symm
    have hp : pkE s = pkZ s.data.toList ((s.data.toList.length + 1) / 2) := by
      unfold pkE
      rw [if_pos hs, hsz]
      rfl
    obtain ⟨u1, u2⟩ := unp_back hs
    rw [← hp] at u1 u2
    have hne : pkE s ≠ [] := fun e => by
      rw [hp] at e
      have hl := congrArg List.length e
      rw [pkZ_length] at hl
      have hnl := num_len hs
      rw [hsz] at hnl
      rw [List.length_nil] at hl
      omega
    simp only [fltE, if_neg hne, recM]
    rw [h1 _ u2 (by rw [u1]; simp [S])]
  · rw [h0 hs, hs, pk_empty, fltE, if_pos rfl]
theorem rec_fld {r : Rc} (h : chkR r = 0) : recM rc0 (fldE r) = some r := by
  obtain ⟨hs, ha, hb⟩ := chk_small h
  have hsb : numB r.sb.data.toList = true ∨ r.sb = ⟨#[]⟩ := by
    unfold isT at hb
    split at hb
    · rename_i hz
      right
      obtain ⟨⟨⟨l⟩⟩⟩ : ∃ x, x = r.sb := ⟨_, rfl⟩
      cases hq : r.sb with
      | mk d =>
        rw [hq] at hz
        have : d = #[] := Array.eq_empty_of_size_eq_zero hz
        rw [this]
    · exact .inl hb
  rw [fldE_one]
  obtain ⟨s0, s1, s2, sa, sb, s5, s6, s7, s8, b9, s10, b11⟩ := r
  obtain ⟨n0, n1, n2, n5, n6, n7, n8, n10, -, -⟩ := hs
  simp only at *
  simp only [valsE, List.drop_succ_cons, List.drop_zero, rc0]
  rw [step_num (r1 := ⟨0, 0, s2, ⟨#[]⟩, ⟨#[]⟩, 0, 0, 0, 0, false, 0, false⟩) n2 (fun e => by rw [e]) (fun v h1 h2 => by simp [setM, h1, h2]),
    step_num (r1 := ⟨s0, 0, s2, ⟨#[]⟩, ⟨#[]⟩, 0, 0, 0, 0, false, 0, false⟩) n0 (fun e => by rw [e]) (fun v h1 h2 => by simp [setM, h1, h2]),
    step_num (r1 := ⟨s0, s1, s2, ⟨#[]⟩, ⟨#[]⟩, 0, 0, 0, 0, false, 0, false⟩) n1 (fun e => by rw [e]) (fun v h1 h2 => by simp [setM, h1, h2]),
    step_pk (r1 := ⟨s0, s1, s2, sa, ⟨#[]⟩, 0, 0, 0, 0, false, 0, false⟩) (.inl ha) (fun e => by rw [e]) (fun v h1 h2 => by simp [setM, h1, h2]),
    step_pk (r1 := ⟨s0, s1, s2, sa, sb, 0, 0, 0, 0, false, 0, false⟩) hsb (fun e => by rw [e]) (fun v h1 h2 => by simp [setM, h1, h2]),
    step_num (r1 := ⟨s0, s1, s2, sa, sb, s5, 0, 0, 0, false, 0, false⟩) n5 (fun e => by rw [e]) (fun v h1 h2 => by simp [setM, h1, h2]),
    step_num (r1 := ⟨s0, s1, s2, sa, sb, s5, s6, 0, 0, false, 0, false⟩) n6 (fun e => by rw [e]) (fun v h1 h2 => by simp [setM, h1, h2]),
    step_num (r1 := ⟨s0, s1, s2, sa, sb, s5, s6, s7, 0, false, 0, false⟩) n7 (fun e => by rw [e]) (fun v h1 h2 => by simp [setM, h1, h2]),
    step_num (r1 := ⟨s0, s1, s2, sa, sb, s5, s6, s7, s8, false, 0, false⟩) n8 (fun e => by rw [e]) (fun v h1 h2 => by simp [setM, h1, h2]),
    step_num (r1 := ⟨s0, s1, s2, sa, sb, s5, s6, s7, s8, false, s10, false⟩) n10 (fun e => by rw [e]) (fun v h1 h2 => by simp [setM, h1, h2])]
  cases b9 <;> cases b11
  · simp [flg, shE_zero, fltE, recM]
  · have e : shE 2 = [2] := sh_one (f := 2) (by decide) (by decide)
    simp [flg, e, fltE, recM, setM]
  · have e : shE 1 = [1] := sh_one (f := 1) (by decide) (by decide)
    simp [flg, e, fltE, recM, setM]
  · have e : shE 3 = [3] := sh_one (f := 3) (by decide) (by decide)
    simp [flg, e, fltE, recM, setM]
theorem enc_head (r : Rc) : ∃ x y, encB r = x :: y :: putE (fldE r) ∧ x * 256 + y = ((putE (fldE r)).length : Int) := ⟨_, _, rfl, by omega⟩
/-- A record is recovered from its bytes. -/
theorem decR_enc {r : Rc} (h : chkR r = 0) : decR (encB r) = (r, 0) := by
  obtain ⟨hs, -, -⟩ := chk_small h
  obtain ⟨x, y, he, hxy⟩ := enc_head r
  have hel : elmR (putE (fldE r)) = (fldE r, 0) := bld_back _ 0 _ (fld_bld hs) (by decide) (Nat.lt_succ_self _)
  rw [he, decR, if_neg (by omega), if_neg (by omega), hel]
  simp only [ne_eq, not_true_eq_false, if_false, rec_fld h, h]
/-- With a byte behind them there is too much. -/
theorem decR_more {r : Rc} : decR (encB r ++ [0]) = (rc0, 3) := by
  obtain ⟨x, y, he, hxy⟩ := enc_head r
  rw [he]
  simp only [List.cons_append, decR]
  rw [if_neg (by simp; omega), if_pos (by simp; omega)]
/-- A proper beginning is cut off. -/
theorem decR_cut {r : Rc} {n : Nat} (hn : n < (encB r).length) : decR ((encB r).take n) = (rc0, 2) := by
  obtain ⟨x, y, he, hxy⟩ := enc_head r
  rw [he] at hn ⊢
  match n, hn with
  | 0, _ => rfl
  | 1, _ => rfl
  | n + 2, hn =>
    simp only [List.length_cons] at hn
    simp only [List.take_succ_cons, decR]
    rw [if_pos (by rw [List.length_take]; omega)]
theorem elm_ran : ∀ (k : Nat) (l : List Int) (p : Int), (∀ x ∈ l, 0 ≤ x ∧ x ≤ 255) → ∀ e ∈ (elmF k l p).1, ∀ x ∈ e.2, 0 ≤ x ∧ x ≤ 255
  | 0, _, _, _, e, h => by simp [elmF] at h
  | k + 1, [], _, _, e, h => by rw [elmF_nil] at h; simp at h
  | k + 1, [t], q, _, e, h => by
    by_cases h1 : t = 0 <;> by_cases h2 : t ≤ q <;> simp [elmF_one, h1, h2] at h
  | k + 1, t :: z :: s, q, hr, e, h => by
    have hs : ∀ x ∈ s, 0 ≤ x ∧ x ≤ 255 := fun x hx => hr x (List.mem_cons_of_mem _ (List.mem_cons_of_mem _ hx))
    rw [elmF_cons] at h
    by_cases h1 : t = 0
    · rw [if_pos h1] at h; simp at h
    · rw [if_neg h1] at h
      by_cases h2 : t ≤ q
      · rw [if_pos h2] at h; simp at h
      · rw [if_neg h2] at h
        by_cases h3 : (s.length : Int) < z
        · rw [if_pos h3] at h; simp at h
        · rw [if_neg h3] at h
          rcases List.mem_cons.1 h with rfl | h
          · exact fun x hx => hs x (List.mem_of_mem_take hx)
          · exact elm_ran k (s.drop z.toNat) t (fun x hx => hs x (List.mem_of_mem_drop hx)) e h
/-- The bytes are recovered from their record. -/
theorem encB_dec {b : List Int} (hr : ∀ x ∈ b, 0 ≤ x ∧ x ≤ 255) (h : (decR b).2 = 0) : chkR (decR b).1 = 0 ∧ encB (decR b).1 = b := by
  match b, hr, h with
  | [], _, h => exact absurd (show (2 : Int) = 0 from h) (by decide)
  | [_], _, h => exact absurd (show (2 : Int) = 0 from h) (by decide)
  | x :: y :: t, hr, h =>
    have hx := hr x (by simp)
    have hy := hr y (by simp)
    have ht : ∀ z ∈ t, 0 ≤ z ∧ z ≤ 255 := fun z hz => hr z (by simp [hz])
    obtain ⟨D, hD⟩ : ∃ D, decR (x :: y :: t) = D := ⟨_, rfl⟩
    rw [hD] at h ⊢
    simp only [decR] at hD
    by_cases c1 : (t.length : Int) < x * 256 + y
    · rw [if_pos c1] at hD; rw [← hD] at h; exact absurd h (by decide)
    rw [if_neg c1] at hD
    by_cases c2 : x * 256 + y < (t.length : Int)
    · rw [if_pos c2] at hD; rw [← hD] at h; exact absurd h (by decide)
    rw [if_neg c2] at hD
    by_cases c3 : (elmR t).2 = 0
    · rw [if_neg (by simp [c3])] at hD
      obtain ⟨hp, hb, -⟩ := elm_back (t.length + 1) t 0 (Nat.lt_succ_self _) ht c3
      cases hm : recM rc0 (elmR t).1 with
      | none => rw [hm] at hD; rw [← hD] at h; exact absurd h (by decide)
      | some r =>
        rw [hm] at hD
        simp only at hD
        by_cases c4 : chkR r = 0
        · rw [if_neg (by simp [c4])] at hD
          subst hD
          refine ⟨c4, ?_⟩
          have hf := rec_back (elm_ran _ t 0 ht) hb hm
          have hp' : putE (fldE r) = t := by rw [hf]; exact hp
          simp only [encB]
          rw [hp', show ((t.length / 256 : Nat) : Int) = x by omega, show ((t.length % 256 : Nat) : Int) = y by omega]
        · rw [if_pos c4] at hD; rw [← hD] at h; exact absurd h c4
    · rw [if_pos c3] at hD; rw [← hD] at h; exact absurd h c3
end Go.Proofs.Ytinnmnhaeejfdaa
