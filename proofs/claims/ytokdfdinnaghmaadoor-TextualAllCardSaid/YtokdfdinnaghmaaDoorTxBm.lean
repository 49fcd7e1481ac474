/- Plain facts: the line of a valid record is read back. -/
import Derived.Test.YtokdfdinnaghmaaDoorTxDm
namespace Go.Proofs.YtokdfdinnaghmaaDoor.Tx
open Go Go.Lib

def Cln (w : Wd) : Prop := ∀ x ∈ w, x ≠ 32 ∧ x ≠ 10
theorem cln_dg {x : UInt8} (h : 48 ≤ x.toNat) : x ≠ 32 ∧ x ≠ 10 := by
  constructor
  · intro e; rw [e] at h; exact absurd h (by decide)
  · intro e; rw [e] at h; exact absurd h (by decide)
theorem cln_dec (u : Nat) : Cln (decDigits u) := fun x hx => by
  have h := List.all_eq_true.1 (dec_all u) x hx
  simp [dgB] at h
  exact cln_dg h.1
theorem cln_num {w : Wd} (h : numB w = true) : Cln w := fun x hx => by
  unfold numB at h
  simp only [Bool.and_eq_true, List.all_eq_true] at h
  have h2 := h.2 x hx
  unfold dgt at h2
  simp only [Bool.and_eq_true, decide_eq_true_eq] at h2
  exact cln_dg (by omega)
theorem cln_lit {w : Wd} (h : w.all (fun x => x != 32 && x != 10) = true) : Cln w := fun x hx => by
  have := List.all_eq_true.1 h x hx
  simpa using this
theorem cln_let (k : Nat) : Cln (letK k) := by
  unfold letK
  split
  · exact cln_lit rfl
  · split
    · exact cln_lit rfl
    · split <;> exact cln_lit rfl
theorem cln_b {b : ByteArray} {k : Int} (h : isT b k = true) : Cln (bWord b.data.toList) := by
  unfold bWord
  split
  · exact cln_lit rfl
  · rename_i he
    unfold isT at h
    by_cases hz : b.size = 0
    · exfalso; apply he
      exact List.eq_nil_of_length_eq_zero (by rw [show b.data.toList.length = b.size by simp]; exact hz)
    · rw [if_neg hz] at h; exact cln_num h
theorem words_cln' (n : Ln) (h1 : Cln n.a) (h2 : Cln (bWord n.b)) : ∀ w ∈ wordsL n, Cln w := by
  have c1 : Cln wPart := cln_lit rfl
  have c2 : Cln wLast := cln_lit rfl
  have c3 : Cln wIn := cln_lit rfl
  have c4 : Cln wOut := cln_lit rfl
  intro w hw
  unfold wordsL partWs trunkWs at hw
  simp only [List.mem_append, List.mem_cons, List.not_mem_nil, or_false] at hw
  rcases hw with (hw | hw) | hw
  · rcases hw with rfl | rfl | rfl | rfl | rfl | rfl | rfl
    · exact cln_let _
    · exact cln_dec _
    · exact cln_dec _
    · exact h1
    · exact h2
    · exact cln_dec _
    · exact cln_dec _
  · by_cases hz : n.pt = 0
    · rw [if_pos hz] at hw; cases hw
    · rw [if_neg hz] at hw
      simp only [List.mem_append, List.mem_cons, List.not_mem_nil, or_false] at hw
      rcases hw with (rfl | rfl | rfl) | hw
      · exact c1
      · exact cln_dec _
      · exact cln_dec _
      · cases hb : n.la
        · rw [hb, if_neg (by decide)] at hw; cases hw
        · rw [hb, if_pos rfl] at hw; rw [List.mem_singleton.1 hw]; exact c2
  · by_cases hz : n.tr = 0
    · rw [if_pos hz] at hw; cases hw
    · rw [if_neg hz] at hw
      simp only [List.mem_cons, List.not_mem_nil, or_false] at hw
      rcases hw with rfl | rfl
      · split
        · exact c3
        · exact c4
      · exact cln_dec _
theorem words_cln {r : Rc} (h : chkR r = 0) : ∀ w ∈ wordsL (lnR r), Cln w := words_cln' (lnR r) (cln_num (chk_ok h).a) (cln_b (chk_ok h).b)
theorem words_ne (n : Ln) : wordsL n ≠ [] := by unfold wordsL; simp
theorem spl_line {r : Rc} (h : chkR r = 0) : spl 32 (lineR r) = wordsL (lnR r) :=
  spl_join _ (words_ne _) (fun w hw x hx => (words_cln h w hw x hx).1)
theorem dec_back {r : Rc} (h : chkR r = 0) : decT (lineR r) = (r, 0) := dec_line h (spl_line h)
theorem line_inj {r q : Rc} (h : chkR r = 0) (k : chkR q = 0) (e : lineR r = lineR q) : r = q := by
  have h1 := dec_back h
  rw [e, dec_back k] at h1
  exact (Prod.mk.inj h1).1.symm
theorem join_cln (c : UInt8) (hc : c ≠ 10) : ∀ ws : List Wd, (∀ w ∈ ws, ∀ x ∈ w, x ≠ 10) → ∀ x ∈ joinW c ws, x ≠ 10
  | [], _, x, hx => by simp [joinW] at hx
  | [w], h, x, hx => by rw [joinW] at hx; exact h w (List.mem_cons_self ..) x hx
  | w :: v :: t, h, x, hx => by
    rw [joinW] at hx
    rcases List.mem_append.1 hx with hx | hx
    · exact h w (List.mem_cons_self ..) x hx
    · rcases List.mem_cons.1 hx with rfl | hx
      · exact hc
      · exact join_cln c hc (v :: t) (fun w hw => h w (List.mem_cons_of_mem _ hw)) x hx
theorem line_cln {r : Rc} (h : chkR r = 0) : ∀ x ∈ lineR r, x ≠ 10 :=
  join_cln 32 (by decide) _ (fun w hw x hx => (words_cln h w hw x hx).2)
end Go.Proofs.YtokdfdinnaghmaaDoor.Tx
