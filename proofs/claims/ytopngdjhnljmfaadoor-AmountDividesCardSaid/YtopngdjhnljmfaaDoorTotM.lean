/- Plain facts: the parts of a rounded list add up, and each is next to its exact quotient. -/
import Derived.Test.YtopngdjhnljmfaaDoorRound
namespace Go.Proofs.YtopngdjhnljmfaaDoor
open Go.RowKit St

theorem set_sum (l : List Int) (i : Nat) (h : i < l.length) (u : Int) : (l.set i u).sum = l.sum - l[i]?.getD 0 + u := by
  induction l generalizing i with
  | nil => simp at h
  | cons x l ih =>
    cases i with
    | zero => simp; omega
    | succ i =>
      have := ih i (by simpa using h)
      simp only [List.set_cons_succ, List.sum_cons, List.getElem?_cons_succ]
      omega
theorem addL_sum (σ : List Nat) : ∀ ps : List Int, (∀ i ∈ σ, i < ps.length) → (addL ps σ).sum = ps.sum + σ.length := by
  induction σ with
  | nil => intro ps _; simp [addL]
  | cons i σ ih =>
    intro ps h
    show (addL (ps.set i (ps[i]?.getD 0 + 1)) σ).sum = _
    rw [ih _ (fun j hj => by rw [List.length_set]; exact h j (List.mem_cons_of_mem _ hj)), set_sum _ _ (h i (List.mem_cons_self ..))]
    simp only [List.length_cons]
    omega
theorem addL_at (σ : List Nat) (hd : σ.Nodup) : ∀ (ps : List Int) (j : Nat), j < ps.length → (addL ps σ)[j]?.getD 0 = ps[j]?.getD 0 + (if j ∈ σ then 1 else 0) := by
  induction σ with
  | nil => intro ps j _; simp [addL]
  | cons i σ ih =>
    intro ps j hj
    obtain ⟨h1, h2⟩ := List.nodup_cons.1 hd
    show (addL (ps.set i (ps[i]?.getD 0 + 1)) σ)[j]?.getD 0 = _
    rw [ih h2 _ _ (by rw [List.length_set]; exact hj)]
    by_cases e : j = i
    · subst e
      rw [if_neg h1, if_pos (List.mem_cons_self ..), List.getElem?_set, if_pos rfl, if_pos hj]
      simp
    · have : (j ∈ i :: σ) ↔ j ∈ σ := by simp [e]
      simp only [this]
      rw [List.getElem?_set, if_neg (fun h => e h.symm)]
theorem sum_le_of {l : List Int} {b : Int} (h : ∀ x ∈ l, x ≤ b) : l.sum ≤ b * (l.length : Int) := by
  induction l with
  | nil => simp
  | cons x l ih =>
    have h1 := h x (List.mem_cons_self ..)
    have h2 := ih (fun y hy => h y (List.mem_cons_of_mem _ hy))
    rw [List.sum_cons, List.length_cons]
    rw [show ((l.length + 1 : Nat) : Int) = (l.length : Int) + 1 by omega, Int.mul_add, Int.mul_one]
    omega
theorem nats_nodup {r : Int → Int} {n : Nat} {C : List Int} (h : SP r 0 n C) : (nats C).Nodup := by
  have h1 : C.Nodup := h.1.nodup_iff.2 ((rg_asc 0 n).imp (fun h => by omega))
  unfold nats
  rw [List.Nodup, List.pairwise_map]
  refine List.Pairwise.imp_of_mem (fun {x y} hx hy hxy e => hxy ?_) h1
  have a := h.mem hx
  have b := h.mem hy
  omega
theorem rg_sum (zs : List Int) : ((rg 0 zs.length).map (restAt zs)).sum = zs.sum - 10000 * (zs.map (· / 10000)).sum := by
  have e : (rg 0 zs.length).map (restAt zs) = zs.map (· % 10000) := by
    apply List.ext_getElem
    · simp [rg]
    · intro i h1 h2
      have hi : i < zs.length := by simpa using h2
      simp [rg, restAt, List.getD, List.getElem?_eq_getElem hi]
  rw [e]
  clear e
  induction zs with
  | nil => simp
  | cons z l ih => rw [List.map_cons, List.map_cons, List.sum_cons, List.sum_cons, List.sum_cons]; omega
theorem perm_sum {l l2 : List Int} (h : l.Perm l2) : l.sum = l2.sum := by
  induction h with
  | nil => rfl
  | cons x _ ih => rw [List.sum_cons, List.sum_cons, ih]
  | swap x y l => rw [List.sum_cons, List.sum_cons, List.sum_cons, List.sum_cons]; omega
  | trans _ _ h1 h2 => exact h1.trans h2
/-- None with the rest 0 is reached. -/
theorem reached {zs C : List Int} {n m : Nat} (hl : zs.length = n) (h : SP (restAt zs) 0 n C) (hm : (m : Int) = rndV zs.sum - (zs.map (· / 10000)).sum) {t : Nat} (ht : t < m) (hmn : m ≤ n) : 0 < restAt zs (C.getD t 0) := by
  rcases Int.lt_or_le 0 (restAt zs (C.getD t 0)) with h0 | h0
  · exact h0
  exfalso
  have hlen := h.length
  have hr : ∀ x, restAt zs x ≤ 9999 := fun x => by unfold restAt; omega
  have hs : (C.map (restAt zs)).sum = zs.sum - 10000 * (zs.map (· / 10000)).sum := by
    rw [← rg_sum, hl]
    exact perm_sum (h.1.map _)
  have e : C.map (restAt zs) = (C.take t).map (restAt zs) ++ (C.drop t).map (restAt zs) := by rw [← List.map_append, List.take_append_drop]
  rw [e, List.sum_append] at hs
  have a := sum_le_of (l := (C.take t).map (restAt zs)) (b := 9999) (fun x hx => by obtain ⟨y, _, rfl⟩ := List.mem_map.1 hx; exact hr y)
  have b := sum_le_of (l := (C.drop t).map (restAt zs)) (b := 0) (fun x hx => by
    obtain ⟨y, hy, rfl⟩ := List.mem_map.1 hx
    obtain ⟨i, hi, rfl⟩ := of_mem hy
    rw [List.length_drop] at hi
    have e2 : (C.drop t).getD i 0 = C.getD (t + i) 0 := by simp [List.getD, List.getElem?_drop]
    rw [e2]
    rcases Nat.eq_zero_or_pos i with rfl | hi0
    · exact h0
    · have := srt_at h.2 (show t < t + i by omega) (by omega)
      unfold L at this
      omega)
  rw [List.length_map, List.length_take] at a
  have hmin : min t C.length = t := by omega
  rw [hmin] at a
  obtain ⟨q1, q2, q3⟩ := tq zs.sum
  generalize zs.sum = S at *
  generalize (zs.map (· / 10000)).sum = T at *
  unfold rndV at hm
  split at hm
  · omega
  · split at hm <;> omega
theorem parts_ok {zs C : List Int} {n m : Nat} (hl : zs.length = n) (h : SP (restAt zs) 0 n C) (hmn : m ≤ n) (hm : (m : Int) = rndV zs.sum - (zs.map (· / 10000)).sum) (hok : zs.all okA = true) :
    (addL (zs.map (· / 10000)) ((nats C).take m)).sum = rndV zs.sum ∧ ∀ i, i < n → ∃ y, (addL (zs.map (· / 10000)) ((nats C).take m))[i]?.getD 0 = y ∧ -112589990685 ≤ y ∧ y ≤ 112589990685 ∧ -10000 < zs[i]?.getD 0 - y * 10000 ∧ zs[i]?.getD 0 - y * 10000 < 10000 := by
  have hcl : (nats C).length = n := by rw [nats_length, h.length]; omega
  constructor
  · rw [addL_sum, List.length_take, hcl]
    · omega
    · intro i hi
      obtain ⟨j, hj, e⟩ := List.getElem_of_mem (List.mem_of_mem_take hi)
      have := (nats_at h (i := j) (by omega)).2
      rw [List.getElem?_eq_getElem hj] at this
      simp only [Option.getD_some] at this
      rw [List.length_map]; omega
  · intro i hi
    refine ⟨_, rfl, ?_⟩
    rw [addL_at _ ((List.take_sublist _ _).nodup (nats_nodup h)) _ _ (by rw [List.length_map]; omega)]
    have hz : okA (zs[i]?.getD 0) = true := by
      rw [List.getElem?_eq_getElem (by omega)]
      exact List.all_eq_true.1 hok _ (List.getElem_mem _)
    have hzb := okA_iff.1 hz
    have e : (zs.map (· / 10000))[i]?.getD 0 = zs[i]?.getD 0 / 10000 := by
      rw [List.getElem?_map, List.getElem?_eq_getElem (by omega)]; rfl
    rw [e]
    split
    · rename_i hi2
      obtain ⟨t, ht, e2⟩ := List.getElem_of_mem hi2
      rw [List.length_take] at ht
      have htm : t < m := by omega
      have := reached hl h hm htm hmn
      have e3 := (nats_at h (i := t) (by omega)).1
      rw [List.getElem_take] at e2
      rw [List.getElem?_eq_getElem (by omega), e2] at e3
      simp only [Option.getD_some] at e3
      rw [e3] at this
      unfold restAt at this
      rw [show ((i : Int)).toNat = i by omega] at this
      have e4 : zs.getD i 0 = zs[i]?.getD 0 := by simp [List.getD]
      rw [e4] at this
      omega
    · omega
end Go.Proofs.YtopngdjhnljmfaaDoor
