/- Pure mathematics: what was appended is read, whatever follows; a part of it is truncated. -/
import Derived.Test.YtlcjpnagjiemiaaCdM2
import Derived.Test.YtlcjpnagjiemiaaCdS
namespace Go.Proofs.Ytlcjpnagjiemiaa
open Go.RowKit

theorem len_ran {n : Nat} (h : n ≤ 1048576) : -9223372036854775808 ≤ (n : Int) ∧ (n : Int) ≤ 9223372036854775807 := by omega
theorem lenR_back (n : Nat) (t : List Int) (h : n ≤ 1048576) : lenR (numE n ++ t, 0) = ((n : Int), (t, 0)) := by
  have hn := numR_back (n : Int) t (len_ran h).1 (len_ran h).2
  have h1 : ¬ ((n : Int) < 0) := by omega
  have h2 : ¬ (1048576 < (n : Int)) := by omega
  unfold lenR
  rw [hn]
  simp only [h1, h2, if_false]
theorem txtR_back (s : ByteArray) (t : List Int) (h : s.size ≤ 1048576) : txtR (txtE s ++ t, 0) = (s, (t, 0)) := by
  have hl := lenR_back s.size (strB s ++ t) h
  have h1 : ¬ ((((strB s ++ t).length : Nat) : Int) < (s.size : Int)) := by
    rw [List.length_append, strB_len]; omega
  rw [txtE, List.append_assoc]
  unfold txtR
  rw [hl]
  simp only [if_true, h1, if_false, Int.toNat_natCast]
  rw [List.take_left' (strB_len s), List.drop_left' (strB_len s), strB_back]
theorem boolR_back (b : Bool) (t : List Int) : boolR (numE (bnum b) ++ t, 0) = (b, (t, 0)) := by
  have hn := numR_back (bnum b) t (bnum_ran b).1 (bnum_ran b).2
  unfold boolR
  rw [hn]
  cases b <;> simp [bnum]
theorem many_back : ∀ (zs t : List Int), (∀ z ∈ zs, -9223372036854775808 ≤ z ∧ z ≤ 9223372036854775807) → many zs.length (listE zs ++ t) = (zs, (t, 0))
  | [], t, _ => rfl
  | z :: zs, t, h => by
    have hz := h z (List.mem_cons_self ..)
    have hn := numR_back z (listE zs ++ t) hz.1 hz.2
    have ih := many_back zs t (fun y hy => h y (List.mem_cons_of_mem _ hy))
    show many (zs.length + 1) ((numE z ++ listE zs) ++ t) = _
    rw [List.append_assoc, many, hn]
    simp only [if_true, ih]
theorem numsR_back (zs t : List Int) (hl : zs.length ≤ 1048576) (h : ∀ z ∈ zs, -9223372036854775808 ≤ z ∧ z ≤ 9223372036854775807) : numsR ((numE zs.length ++ listE zs) ++ t, 0) = (zs, (t, 0)) := by
  have h1 := lenR_back zs.length (listE zs ++ t) hl
  rw [List.append_assoc]
  unfold numsR
  rw [h1]
  simp only [if_true, Int.toNat_natCast]
  exact many_back zs t h
theorem recR_back (r : Rc) (t : List Int) (h : r.In 1000) : recR (r.enc ++ t, 0) = (r, (t, 0)) := by
  obtain ⟨h0, h1, h2, ha, hb, h5, h6, h7, h8, h10⟩ := h
  simp only [recR, Rc.enc, List.append_assoc, numR_back _ _ h0.1 h0.2, numR_back _ _ h1.1 h1.2, numR_back _ _ h2.1 h2.2, txtR_back _ _ (Nat.le_trans ha (by decide)), txtR_back _ _ (Nat.le_trans hb (by decide)),
    numR_back _ _ h5.1 h5.2, numR_back _ _ h6.1 h6.2, numR_back _ _ h7.1 h7.2, numR_back _ _ h8.1 h8.2, numR_back _ _ h10.1 h10.2, boolR_back]

/-- A part of E that is not all of it leaves nothing, with the error 2. -/
def Cuts (E : List Int) (G : St → St) : Prop := ∀ k, k < E.length → G (E.take k, 0) = ([], 2)
theorem cuts_num {z : Int} {E : List Int} {G : St → St} (hz : -9223372036854775808 ≤ z ∧ z ≤ 9223372036854775807) (h : Cuts E G) (h2 : G ([], 2) = ([], 2)) : Cuts (numE z ++ E) (fun s => G (numR s).2) := by
  intro k hk
  show G (numR _).2 = _
  rcases Nat.lt_or_ge k (numE z).length with hlt | hge
  · rw [List.take_append_of_le_length (by omega), numR_cut z k hz.1 hz.2 hlt]
    exact h2
  · rw [List.take_append, List.take_of_length_le hge, numR_back z _ hz.1 hz.2]
    exact h _ (by rw [List.length_append] at hk; omega)
theorem txtR_cut (s : ByteArray) (k : Nat) (hs : s.size ≤ 1048576) (hk : k < (txtE s).length) : txtR ((txtE s).take k, 0) = (ByteArray.empty, ([], 2)) := by
  rcases Nat.lt_or_ge k (numE s.size).length with hlt | hge
  · rw [txtE, List.take_append_of_le_length (by omega)]
    unfold txtR lenR
    rw [numR_cut _ k (len_ran hs).1 (len_ran hs).2 hlt]
    simp
  · rw [txtE, List.take_append, List.take_of_length_le hge]
    unfold txtR
    rw [lenR_back _ _ hs]
    have h1 : ((((strB s).take (k - (numE s.size).length)).length : Nat) : Int) < (s.size : Int) := by
      rw [List.length_take, strB_len]
      rw [txtE, List.length_append, strB_len] at hk
      omega
    simp only [if_true, h1]
theorem cuts_txt {s : ByteArray} {E : List Int} {G : St → St} (hs : s.size ≤ 1048576) (h : Cuts E G) (h2 : G ([], 2) = ([], 2)) : Cuts (txtE s ++ E) (fun s => G (txtR s).2) := by
  intro k hk
  show G (txtR _).2 = _
  rcases Nat.lt_or_ge k (txtE s).length with hlt | hge
  · rw [List.take_append_of_le_length (by omega), txtR_cut s k hs hlt]
    exact h2
  · rw [List.take_append, List.take_of_length_le hge, txtR_back s _ hs]
    exact h _ (by rw [List.length_append] at hk; omega)
theorem boolR_cut (b : Bool) (k : Nat) (hk : k < (numE (bnum b)).length) : boolR ((numE (bnum b)).take k, 0) = (false, ([], 2)) := by
  unfold boolR
  rw [numR_cut _ k (bnum_ran b).1 (bnum_ran b).2 hk]
  simp
theorem cuts_bool {b : Bool} {E : List Int} {G : St → St} (h : Cuts E G) (h2 : G ([], 2) = ([], 2)) : Cuts (numE (bnum b) ++ E) (fun s => G (boolR s).2) := by
  intro k hk
  show G (boolR _).2 = _
  rcases Nat.lt_or_ge k (numE (bnum b)).length with hlt | hge
  · rw [List.take_append_of_le_length (by omega), boolR_cut b k hlt]
    exact h2
  · rw [List.take_append, List.take_of_length_le hge, boolR_back b _]
    exact h _ (by rw [List.length_append] at hk; omega)
theorem cuts_last {b : Bool} : Cuts (numE (bnum b)) (fun s => (boolR s).2) := fun k hk => by
  show (boolR _).2 = _
  rw [boolR_cut b k hk]
theorem recR_cut (r : Rc) (k : Nat) (h : r.In 1000) (hk : k < r.enc.length) : (recR (r.enc.take k, 0)).2 = ([], 2) := by
  obtain ⟨h0, h1, h2, ha, hb, h5, h6, h7, h8, h10⟩ := h
  have c11 : Cuts _ _ := cuts_last (b := r.b11)
  have c10 := cuts_num h10 c11 (by decide)
  have c9 := cuts_bool (b := r.b9) c10 (by decide)
  have c8 := cuts_num h8 c9 (by decide)
  have c7 := cuts_num h7 c8 (by decide)
  have c6 := cuts_num h6 c7 (by decide)
  have c5 := cuts_num h5 c6 (by decide)
  have cb := cuts_txt (s := r.sb) (Nat.le_trans hb (by decide)) c5 (by decide)
  have ca := cuts_txt (s := r.sa) (Nat.le_trans ha (by decide)) cb (by decide)
  have c2 := cuts_num h2 ca (by decide)
  have c1 := cuts_num h1 c2 (by decide)
  have c0 := cuts_num h0 c1 (by decide)
  exact c0 k hk
theorem many_cut : ∀ (zs : List Int) (k : Nat), (∀ z ∈ zs, -9223372036854775808 ≤ z ∧ z ≤ 9223372036854775807) → k < (listE zs).length → many zs.length ((listE zs).take k) = ([], ([], 2))
  | [], k, _, hk => by simp [listE] at hk
  | z :: zs, k, h, hk => by
    have hz := h z (List.mem_cons_self ..)
    have e : listE (z :: zs) = numE z ++ listE zs := rfl
    rw [e] at hk ⊢
    show many (zs.length + 1) _ = _
    rcases Nat.lt_or_ge k (numE z).length with hlt | hge
    · rw [List.take_append_of_le_length (by omega), many, numR_cut z k hz.1 hz.2 hlt]
      simp
    · have ih := many_cut zs (k - (numE z).length) (fun y hy => h y (List.mem_cons_of_mem _ hy)) (by rw [List.length_append] at hk; omega)
      rw [List.take_append, List.take_of_length_le hge, many, numR_back z _ hz.1 hz.2]
      simp only [if_true, ih]
      simp
theorem numsR_cut (zs : List Int) (k : Nat) (hl : zs.length ≤ 1048576) (h : ∀ z ∈ zs, -9223372036854775808 ≤ z ∧ z ≤ 9223372036854775807) (hk : k < (numE zs.length ++ listE zs).length) : numsR ((numE zs.length ++ listE zs).take k, 0) = ([], ([], 2)) := by
  rcases Nat.lt_or_ge k (numE zs.length).length with hlt | hge
  · rw [List.take_append_of_le_length (by omega)]
    unfold numsR lenR
    rw [numR_cut _ k (len_ran hl).1 (len_ran hl).2 hlt]
    simp
  · rw [List.take_append, List.take_of_length_le hge]
    unfold numsR
    rw [lenR_back _ _ hl]
    simp only [if_true, Int.toNat_natCast]
    exact many_cut zs _ h (by rw [List.length_append] at hk; omega)
end Go.Proofs.Ytlcjpnagjiemiaa
