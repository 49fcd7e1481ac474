/- Plain mathematics: a divided amount's parts add up to it, and each is next to its exact share. -/
import Derived.Test.YtopngdjhnljmfaaDoorTotM
namespace Go.Proofs.YtopngdjhnljmfaaDoor
open Go.RowKit St

/-- The whole shares, and what each leaves. -/
def qL (M W : Int) (ws : List Int) : List Int := ws.map fun w => M * w / W
def rL (M W : Int) (ws : List Int) : List Int := ws.map fun w => M * w % W
def rkAt (M W : Int) (ws : List Int) (i : Int) : Int := M * ws.getD i.toNat 0 % W
theorem rL_sum (M W : Int) (ws : List Int) : (rL M W ws).sum = M * ws.sum - W * (qL M W ws).sum := by
  unfold rL qL
  induction ws with
  | nil => simp
  | cons w l ih =>
    simp only [List.map_cons, List.sum_cons]
    rw [ih, Int.emod_def, Int.mul_add, Int.mul_add]
    omega
theorem rL_rg (M W : Int) (ws : List Int) : (rg 0 ws.length).map (rkAt M W ws) = rL M W ws := by
  apply List.ext_getElem
  · simp [rg, rL]
  · intro i h1 h2
    have hi : i < ws.length := by simpa [rL] using h2
    simp [rg, rL, rkAt, List.getD, List.getElem?_eq_getElem hi]
theorem sum_ge_of {l : List Int} (h : ∀ x ∈ l, 0 ≤ x) : 0 ≤ l.sum := by
  induction l with
  | nil => simp
  | cons x l ih =>
    have h1 := h x (List.mem_cons_self ..)
    have h2 := ih (fun y hy => h y (List.mem_cons_of_mem _ hy))
    rw [List.sum_cons]; omega
theorem rk_bounds {M W : Int} (hW : 0 < W) (ws : List Int) (x : Int) : 0 ≤ rkAt M W ws x ∧ rkAt M W ws x ≤ W - 1 := by
  unfold rkAt
  have h1 := Int.emod_nonneg (M * ws.getD x.toNat 0) (show W ≠ 0 by omega)
  have h2 := Int.emod_lt_of_pos (M * ws.getD x.toNat 0) hW
  omega
/-- What is missing. -/
theorem missing2 {M W : Int} {ws : List Int} {n : Nat} (hl : ws.length = n) (hW : 0 < W) (hs : ws.sum = W) : ∃ m : Nat, m ≤ n ∧ (m : Int) = M - (qL M W ws).sum := by
  have h1 := rL_sum M W ws
  rw [hs, Int.mul_comm M W, ← Int.mul_sub] at h1
  have h2 : 0 ≤ (rL M W ws).sum := by
    refine sum_ge_of fun x hx => ?_
    obtain ⟨w, _, rfl⟩ := List.mem_map.1 hx
    exact Int.emod_nonneg _ (by omega)
  have h3 := sum_le_of (l := rL M W ws) (b := W) (fun x hx => by
    obtain ⟨w, _, rfl⟩ := List.mem_map.1 hx
    have := Int.emod_lt_of_pos (M * w) hW
    omega)
  have e : (rL M W ws).length = n := by unfold rL; rw [List.length_map, hl]
  rw [e, h1] at h3
  rw [h1] at h2
  have h4 := Int.le_of_mul_le_mul_left h3 hW
  have h5 : 0 ≤ M - (qL M W ws).sum := by
    rcases Int.lt_or_le (M - (qL M W ws).sum) 0 with h | h
    · have := Int.mul_le_mul_of_nonneg_left (show M - (qL M W ws).sum ≤ -1 by omega) (Int.le_of_lt hW)
      omega
    · exact h
  exact ⟨(M - (qL M W ws).sum).toNat, by omega, by omega⟩
theorem reached2 {M W : Int} {ws C : List Int} {n m : Nat} (hl : ws.length = n) (hW : 0 < W) (hs : ws.sum = W) (h : SP (rkAt M W ws) 0 n C) (hm : (m : Int) = M - (qL M W ws).sum) {t : Nat} (ht : t < m) (hmn : m ≤ n) : 0 < rkAt M W ws (C.getD t 0) := by
  rcases Int.lt_or_le 0 (rkAt M W ws (C.getD t 0)) with h0 | h0
  · exact h0
  exfalso
  have hlen := h.length
  have hsum : (C.map (rkAt M W ws)).sum = W * (m : Int) := by
    have h1 := rL_sum M W ws
    rw [hs, Int.mul_comm M W, ← Int.mul_sub, ← hm, ← rL_rg, hl] at h1
    rw [← h1]
    exact perm_sum (h.1.map _)
  have e : C.map (rkAt M W ws) = (C.take t).map (rkAt M W ws) ++ (C.drop t).map (rkAt M W ws) := by rw [← List.map_append, List.take_append_drop]
  rw [e, List.sum_append] at hsum
  have a := sum_le_of (l := (C.take t).map (rkAt M W ws)) (b := W - 1) (fun x hx => by obtain ⟨y, _, rfl⟩ := List.mem_map.1 hx; exact (rk_bounds hW ws y).2)
  have b := sum_le_of (l := (C.drop t).map (rkAt M W ws)) (b := 0) (fun x hx => by
    obtain ⟨y, hy, rfl⟩ := List.mem_map.1 hx
    obtain ⟨i, hi, rfl⟩ := of_mem hy
    rw [List.length_drop] at hi
    have e2 : (C.drop t).getD i 0 = C.getD (t + i) 0 := by simp [List.getD, List.getElem?_drop]
    rw [e2]
    rcases Nat.eq_zero_or_pos i with rfl | hi0
    · exact h0
    · have := srt_at h.2 (show t < t + i by omega) (by omega)
      unfold L at this
      omega)
  rw [List.length_map, List.length_take] at a
  have hmin : min t C.length = t := by omega
  rw [hmin, Int.sub_mul, Int.one_mul] at a
  rw [Int.zero_mul] at b
  have hwm := Int.mul_le_mul_of_nonneg_left (show (t : Int) + 1 ≤ (m : Int) by omega) (Int.le_of_lt hW)
  rw [Int.mul_add, Int.mul_one] at hwm
  omega
theorem parts_ok2 {M W : Int} {ws C : List Int} {n m : Nat} (hM : 0 ≤ M) (hl : ws.length = n) (hW : 0 < W) (hs : ws.sum = W) (hw : ∀ w ∈ ws, 0 ≤ w ∧ w ≤ W) (h : SP (rkAt M W ws) 0 n C) (hmn : m ≤ n) (hm : (m : Int) = M - (qL M W ws).sum) :
    (addL (qL M W ws) ((nats C).take m)).sum = M ∧ ∀ i, i < n → ∃ y, (addL (qL M W ws) ((nats C).take m))[i]?.getD 0 = y ∧ 0 ≤ y ∧ y ≤ M ∧ (y = M * ws[i]?.getD 0 / W ∨ (y = M * ws[i]?.getD 0 / W + 1 ∧ 0 < M * ws[i]?.getD 0 % W)) := by
  have hcl : (nats C).length = n := by rw [nats_length, h.length]; omega
  have hql : (qL M W ws).length = n := by unfold qL; rw [List.length_map, hl]
  constructor
  · rw [addL_sum, List.length_take, hcl]
    · omega
    · intro i hi
      obtain ⟨j, hj, e⟩ := List.getElem_of_mem (List.mem_of_mem_take hi)
      have := (nats_at h (i := j) (by omega)).2
      rw [List.getElem?_eq_getElem hj] at this
      simp only [Option.getD_some] at this
      rw [hql]; omega
  · intro i hi
    refine ⟨_, rfl, ?_⟩
    rw [addL_at _ ((List.take_sublist _ _).nodup (nats_nodup h)) _ _ (by omega)]
    have hwi : 0 ≤ ws[i]?.getD 0 ∧ ws[i]?.getD 0 ≤ W := by
      rw [List.getElem?_eq_getElem (by omega)]
      exact hw _ (List.getElem_mem _)
    have e : (qL M W ws)[i]?.getD 0 = M * ws[i]?.getD 0 / W := by
      unfold qL
      rw [List.getElem?_map, List.getElem?_eq_getElem (by omega)]; rfl
    have erk : rkAt M W ws (i : Int) = M * ws[i]?.getD 0 % W := by
      unfold rkAt
      rw [show ((i : Int)).toNat = i by omega]
      simp [List.getD]
    rw [e]
    have hmul := Int.mul_le_mul_of_nonneg_left hwi.2 hM
    have hnn := Int.mul_nonneg hM hwi.1
    have hq0 : 0 ≤ M * ws[i]?.getD 0 / W := Int.ediv_nonneg hnn (Int.le_of_lt hW)
    have hdm := Int.emod_def (M * ws[i]?.getD 0) W
    have hr0 := Int.emod_nonneg (M * ws[i]?.getD 0) (show W ≠ 0 by omega)
    generalize M * ws[i]?.getD 0 / W = Q at *
    generalize M * ws[i]?.getD 0 % W = R at *
    have hQM : W * Q ≤ W * M := by rw [Int.mul_comm W M]; omega
    have hqm := Int.le_of_mul_le_mul_left hQM hW
    split
    · rename_i hi2
      obtain ⟨t, ht, e2⟩ := List.getElem_of_mem hi2
      rw [List.length_take] at ht
      have htm : t < m := by omega
      have hr := reached2 hl hW hs h hm htm hmn
      have e3 := (nats_at h (i := t) (by omega)).1
      rw [List.getElem_take] at e2
      rw [List.getElem?_eq_getElem (by omega), e2] at e3
      simp only [Option.getD_some] at e3
      rw [e3, erk] at hr
      have hlt : Q < M := by
        rcases Int.lt_or_le Q M with h' | h'
        · exact h'
        · have := Int.mul_le_mul_of_nonneg_left h' (Int.le_of_lt hW)
          rw [Int.mul_comm W M] at this
          omega
      exact ⟨by omega, by omega, .inr ⟨rfl, hr⟩⟩
    · exact ⟨by omega, by omega, .inl (by omega)⟩
theorem take_sum_le {ws : List Int} (hw : ∀ w ∈ ws, 0 ≤ w) (k : Nat) : (ws.take k).sum ≤ ws.sum := by
  have h : ws.sum = (ws.take k).sum + (ws.drop k).sum := by rw [← List.sum_append, List.take_append_drop]
  have := sum_ge_of (l := ws.drop k) (fun x hx => hw x (List.mem_of_mem_drop hx))
  omega
/-- What the first shares come to. -/
theorem part_sum_le {M W : Int} {ws : List Int} (hM : 0 ≤ M) (hW : 0 < W) (hs : ws.sum = W) (hw : ∀ w ∈ ws, 0 ≤ w) (k : Nat) : 0 ≤ (qL M W (ws.take k)).sum ∧ (qL M W (ws.take k)).sum ≤ M := by
  have h1 := rL_sum M W (ws.take k)
  have h2 : 0 ≤ (rL M W (ws.take k)).sum := by
    refine sum_ge_of fun x hx => ?_
    obtain ⟨w, _, rfl⟩ := List.mem_map.1 hx
    exact Int.emod_nonneg _ (by omega)
  have h3 := Int.mul_le_mul_of_nonneg_left (take_sum_le hw k) hM
  rw [hs, Int.mul_comm M W] at h3
  refine ⟨sum_ge_of fun x hx => ?_, Int.le_of_mul_le_mul_left (a := W) (by omega) hW⟩
  obtain ⟨w, hw', rfl⟩ := List.mem_map.1 hx
  exact Int.ediv_nonneg (Int.mul_nonneg hM (hw w (List.mem_of_mem_take hw'))) (Int.le_of_lt hW)
/-- One product and its division, in numbers without a sign. -/
theorem share_nat {m z W : Nat} (hm : m ≤ 1125899906842624) (hz : z ≤ W) (hW : 0 < W) (hW2 : W ≤ 70368744177664) : m * z / 18446744073709551616 < W ∧ m * z / W ≤ m ∧ m * z % W < W := by
  have h1 := Nat.mul_le_mul hm hz
  have h2 := Nat.mul_le_mul_left m hz
  refine ⟨by rw [Nat.div_lt_iff_lt_mul (by decide)]; omega, ?_, Nat.mod_lt _ hW⟩
  exact Nat.div_le_of_le_mul (by rw [Nat.mul_comm W m]; exact h2)
end Go.Proofs.YtopngdjhnljmfaaDoor
