/- Plain facts: the text of lines, and what its lines are. -/
import Derived.Test.YtokdfdinnaghmaaDoorTxL3
import Derived.Test.YtokdfdinnaghmaaDoorTxL2
namespace Go.Proofs.YtokdfdinnaghmaaDoor.Va
open Go Go.Lib Go.Proofs.YtokdfdinnaghmaaDoor.Tx

/-- The text of lines. -/
def TX : List Wd → Wd
  | [] => []
  | w :: t => w ++ (10 :: TX t)
theorem TX_app : ∀ a b : List Wd, TX (a ++ b) = TX a ++ TX b
  | [], _ => rfl
  | w :: t, b => by simp [TX, TX_app t b]
theorem TX_one (w : Wd) : TX [w] = w ++ [10] := rfl
theorem spl_TX : ∀ ws : List Wd, (∀ w ∈ ws, ∀ x ∈ w, x ≠ 10) → spl 10 (TX ws) = ws ++ [[]]
  | [], _ => rfl
  | w :: t, h => by
    have h1 := h w (List.mem_cons_self ..)
    have ih := spl_TX t (fun v hv => h v (List.mem_cons_of_mem _ hv))
    unfold spl at ih ⊢
    rw [TX, splA_far w [] _ h1, splA_sep, ih]; simp
theorem ok_app (l : Wd) : okL (l ++ [10]) = true := by simp [okL]
theorem ok_TX : ∀ ws : List Wd, okL (TX ws) = true := by
  intro ws
  rcases List.eq_nil_or_concat ws with rfl | ⟨t, w, rfl⟩
  · rfl
  · rw [List.concat_eq_append, TX_app, TX_one, ← List.append_assoc]; exact ok_app _
theorem allL_TX {ws : List Wd} (h : ∀ w ∈ ws, ∀ x ∈ w, x ≠ 10) : allL (TX ws) = ws := by
  unfold allL; rw [if_pos (ok_TX ws), spl_TX ws h]; simp
theorem splA_snoc (c : UInt8) : ∀ (l cur : Wd), splA c cur (l ++ [c]) = splA c cur l ++ [[]]
  | [], cur => by simp [splA]
  | y :: t, cur => by
    rw [List.cons_append, splA, splA]
    split
    · rw [splA_snoc c t []]; rfl
    · rw [splA_snoc c t _]
theorem splA_one (c : UInt8) : ∀ (l cur : Wd), (splA c cur l).length = 1 ↔ ∀ x ∈ l, x ≠ c
  | [], cur => by simp [splA]
  | y :: t, cur => by
    rw [splA]
    by_cases h : y = c
    · rw [if_pos h]
      have := splA_pos (c := c) t []
      constructor
      · intro h2; simp only [List.length_cons] at h2; omega
      · intro h2; exact absurd h (h2 y (List.mem_cons_self ..))
    · rw [if_neg h, splA_one c t _]
      constructor
      · intro h2 x hx
        rcases List.mem_cons.1 hx with rfl | hx
        · exact h
        · exact h2 x hx
      · intro h2 x hx; exact h2 x (List.mem_cons_of_mem _ hx)
/-- Whether a text is one line. -/
def oneB (x : Wd) : Bool := x.all (fun b => b != 10)
theorem one_all {x : Wd} : oneB x = true ↔ ∀ b ∈ x, b ≠ 10 := by
  unfold oneB; rw [List.all_eq_true]
  constructor
  · intro h b hb; simpa using h b hb
  · intro h b hb; simpa using h b hb
theorem all_snoc (x : Wd) : allL (x ++ [10]) = spl 10 x := by
  unfold allL; rw [if_pos (ok_app x)]
  unfold spl; rw [splA_snoc]; simp
theorem allX_snoc (x : Wd) : allX (x ++ [10]) = 0 := by unfold allX; rw [if_pos (ok_app x)]
theorem one_len {x : Wd} : (spl 10 x).length = 1 ↔ oneB x = true := by rw [one_all]; exact splA_one 10 x []
/-- The valid records among the first k. -/
def wl (D : List Rc) (k : Nat) : List Rc := (D.take k).filter fun r => decide (chkR r = 0)
theorem wl_yes {D : List Rc} {k : Nat} (hk : k < D.length) (h : chkR (D.getD k rc0) = 0) : wl D (k + 1) = wl D k ++ [D.getD k rc0] := by
  unfold wl
  rw [List.take_succ_eq_append_getElem hk, List.filter_append]
  rw [List.getD_eq_getElem?_getD, List.getElem?_eq_getElem hk] at h ⊢
  have h2 : chkR D[k] = 0 := h
  simp [h2]
theorem wl_no {D : List Rc} {k : Nat} (hk : k < D.length) (h : chkR (D.getD k rc0) ≠ 0) : wl D (k + 1) = wl D k := by
  unfold wl
  rw [List.take_succ_eq_append_getElem hk, List.filter_append]
  rw [List.getD_eq_getElem?_getD, List.getElem?_eq_getElem hk] at h
  have h2 : chkR D[k] ≠ 0 := h
  simp [h2]
theorem wl_len {D : List Rc} {k : Nat} : (wl D k).length ≤ k := Nat.le_trans (List.length_filter_le _ _) (List.length_take_le _ _)
theorem wl_chk {D : List Rc} {k : Nat} : ∀ r ∈ wl D k, chkR r = 0 := fun r h => by
  have := (List.mem_filter.1 h).2; simpa using this
/-- The lines among the first k that are no records. -/
def bl (Z : List ByteArray) (k : Nat) : List Wd := ((Z.take k).map fun z => z.data.toList).filter fun x => oneB x && decide ((decT x).2 ≠ 0)
theorem bl_step {Z : List ByteArray} {k : Nat} (hk : k < Z.length) {z : ByteArray} (hz : Z.getD k ⟨#[]⟩ = z) : bl Z (k + 1) = if (oneB z.data.toList && decide ((decT z.data.toList).2 ≠ 0)) = true then bl Z k ++ [z.data.toList] else bl Z k := by
  unfold bl
  rw [List.take_succ_eq_append_getElem hk, List.map_append, List.filter_append]
  rw [List.getD_eq_getElem?_getD, List.getElem?_eq_getElem hk] at hz
  have h2 : Z[k] = z := hz
  rw [h2]
  by_cases h : (oneB z.data.toList && decide ((decT z.data.toList).2 ≠ 0)) = true
  · rw [if_pos h]; simp only [List.map_cons, List.map_nil, List.filter_cons, h, if_true, List.filter_nil]
  · rw [if_neg h]; simp only [List.map_cons, List.map_nil, List.filter_cons, h]; simp
theorem bl_len {Z : List ByteArray} {k : Nat} : (bl Z k).length ≤ k := by
  refine Nat.le_trans (List.length_filter_le _ _) ?_
  rw [List.length_map]; exact List.length_take_le _ _
theorem bl_bad {Z : List ByteArray} {k : Nat} : ∀ x ∈ bl Z k, (∀ b ∈ x, b ≠ 10) ∧ (decT x).2 ≠ 0 := fun x h => by
  have := (List.mem_filter.1 h).2
  simp only [Bool.and_eq_true, decide_eq_true_eq] at this
  exact ⟨one_all.1 this.1, this.2⟩
theorem pas_first {D : List Rc} {E : Nat → Int} : ∀ (m : Nat), (∀ i, i < m → E i = 0) → pasN D E m = (List.range m).map fun i => D.getD i rc0
  | 0, _ => rfl
  | m + 1, h => by rw [pas_yes (h m (Nat.lt_succ_self m)), pas_first m (fun i hi => h i (by omega)), List.range_succ]; simp
theorem pas_rest {D : List Rc} {E : Nat → Int} {m : Nat} : ∀ (n : Nat), (∀ i, i < n → E (m + i) ≠ 0) → pasN D E (m + n) = pasN D E m
  | 0, _ => rfl
  | n + 1, h => by rw [← Nat.add_assoc, pas_no (h n (Nat.lt_succ_self n)), pas_rest n (fun i hi => h i (by omega))]
theorem rej_first {E : Nat → Int} : ∀ (m : Nat), (∀ i, i < m → E i = 0) → rejN E m = []
  | 0, _ => rfl
  | m + 1, h => by rw [rej_yes (h m (Nat.lt_succ_self m)), rej_first m (fun i hi => h i (by omega))]
theorem rej_rest {E : Nat → Int} {m : Nat} (h0 : rejN E m = []) : ∀ (n : Nat), (∀ i, i < n → E (m + i) ≠ 0) → rejN E (m + n) = (List.range n).map fun i => ((0 : Int), (0 : Int), ((m + i : Nat) : Int), E (m + i))
  | 0, _ => by rw [Nat.add_zero, h0]; rfl
  | n + 1, h => by rw [← Nat.add_assoc, rej_no (h n (Nat.lt_succ_self n)), rej_rest h0 n (fun i hi => h i (by omega)), List.range_succ]; simp
/-- The whole text. -/
def tx (D : List Rc) (Z : List ByteArray) (n m : Nat) : List Wd := (wl D n).map lineR ++ bl Z m
theorem tx_cln {D : List Rc} {Z : List ByteArray} {n m : Nat} : ∀ w ∈ tx D Z n m, ∀ x ∈ w, x ≠ 10 := by
  intro w hw
  rcases List.mem_append.1 hw with h | h
  · obtain ⟨r, hr, rfl⟩ := List.mem_map.1 h
    exact line_cln (wl_chk r hr)
  · exact (bl_bad w h).1
theorem tx_E {D : List Rc} {Z : List ByteArray} {n m : Nat} : (∀ i, i < (wl D n).length → allE (TX (tx D Z n m)) i = 0 ∧ (allD (TX (tx D Z n m))).getD i rc0 = (wl D n).getD i rc0) ∧ (∀ i, i < (bl Z m).length → allE (TX (tx D Z n m)) ((wl D n).length + i) ≠ 0) ∧ (allL (TX (tx D Z n m))).length = (wl D n).length + (bl Z m).length := by
  have hA : allL (TX (tx D Z n m)) = tx D Z n m := allL_TX tx_cln
  refine ⟨fun i hi => ?_, fun i hi => ?_, ?_⟩
  · have hg : (tx D Z n m).getD i [] = lineR ((wl D n).getD i rc0) := by
      unfold tx
      rw [List.getD_eq_getElem?_getD, List.getElem?_append_left (by simpa using hi), List.getElem?_map, List.getD_eq_getElem?_getD, List.getElem?_eq_getElem hi]; rfl
    have hc : chkR ((wl D n).getD i rc0) = 0 := wl_chk _ (by rw [List.getD_eq_getElem?_getD, List.getElem?_eq_getElem hi]; exact List.getElem_mem hi)
    have hd := dec_back hc
    have hl : i < (tx D Z n m).length := by unfold tx; rw [List.length_append, List.length_map]; omega
    constructor
    · unfold allE; rw [hA, hg, hd]
    · unfold allD
      rw [hA, List.getD_eq_getElem?_getD, List.getElem?_map, List.getElem?_eq_getElem hl]
      have : (tx D Z n m)[i] = lineR ((wl D n).getD i rc0) := by rw [← hg, List.getD_eq_getElem?_getD, List.getElem?_eq_getElem hl]; rfl
      simp only [Option.map_some, Option.getD_some]
      rw [this, hd]
  · have hg : (tx D Z n m).getD ((wl D n).length + i) [] ∈ bl Z m := by
      unfold tx
      rw [List.getD_eq_getElem?_getD, List.getElem?_append_right (by simp), List.length_map, Nat.add_sub_cancel_left, List.getElem?_eq_getElem hi]
      exact List.getElem_mem hi
    unfold allE; rw [hA]; exact (bl_bad _ hg).2
  · rw [hA]; unfold tx; simp
theorem tx_pas {D : List Rc} {Z : List ByteArray} {n m : Nat} : pasN (allD (TX (tx D Z n m))) (allE (TX (tx D Z n m))) ((wl D n).length + (bl Z m).length) = wl D n := by
  obtain ⟨h1, h2, -⟩ := tx_E (D := D) (Z := Z) (n := n) (m := m)
  rw [pas_rest _ h2, pas_first _ (fun i hi => (h1 i hi).1)]
  refine List.ext_getElem (by simp) fun i hi hj => ?_
  rw [List.getElem_map, List.getElem_range, (h1 i hj).2, List.getD_eq_getElem?_getD, List.getElem?_eq_getElem hj]; rfl
theorem tx_rej {D : List Rc} {Z : List ByteArray} {n m : Nat} : rejN (allE (TX (tx D Z n m))) ((wl D n).length + (bl Z m).length) = (List.range (bl Z m).length).map fun i => ((0 : Int), (0 : Int), (((wl D n).length + i : Nat) : Int), allE (TX (tx D Z n m)) ((wl D n).length + i)) := by
  obtain ⟨h1, h2, -⟩ := tx_E (D := D) (Z := Z) (n := n) (m := m)
  exact rej_rest (rej_first _ (fun i hi => (h1 i hi).1)) _ h2
end Go.Proofs.YtokdfdinnaghmaaDoor.Va
