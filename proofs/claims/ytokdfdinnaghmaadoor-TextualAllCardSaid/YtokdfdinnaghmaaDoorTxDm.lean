/- Plain facts: the line of a record, and the record of a line. -/
import Derived.Test.YtokdfdinnaghmaaDoorTxRd
import Derived.Test.YtokdfdinnaghmaaDoorTxWl
import Derived.Test.YtokdfdinnaghmaaDoorTxNo
import Derived.Test.YtokdfdinnaghmaaDoorRcM
namespace Go.Proofs.YtokdfdinnaghmaaDoor.Tx
open Go Go.Lib

/-- What a record says. -/
def lnR (r : Rc) : Ln := ⟨r.s2.toNat, r.s0.toNat, r.s1.toNat, r.sa.data.toList, r.sb.data.toList, r.s5.toNat, r.s6.toNat, r.s7.toNat, r.s8.toNat, r.b9, r.s10.toNat, r.b11⟩
/-- The record that a line denotes. -/
def rcN (n : Ln) : Rc := ⟨n.so, n.se, n.kd, S n.a, S n.b, n.st, n.un, n.cl, n.pt, n.la, n.tr, n.inb⟩
/-- The line of a record. -/
def lineR (r : Rc) : Wd := joinW 32 (wordsL (lnR r))
theorem S_data (l : Wd) : (S l).data.toList = l := by simp [S]
theorem S_of (s : ByteArray) : S s.data.toList = s := by
  obtain ⟨⟨l⟩⟩ := s; rfl
theorem S_inj {a b : Wd} (h : S a = S b) : a = b := by
  have := congrArg (fun s : ByteArray => s.data.toList) h
  simpa [S_data] using this
theorem Lr.eq {n : Ln} {r : Rc} (h : Lr n r) : r = rcN n := by
  obtain ⟨k0, k1, k2, k3, k4, k5, k6, k7, k8, k9, k10, k11, -, -⟩ := h
  obtain ⟨s0, s1, s2, sa, sb, s5, s6, s7, s8, b9, s10, b11⟩ := r
  obtain ⟨kd, so, se, a, b, st, un, cl, pt, la, tr, inb⟩ := n
  simp only at k0 k1 k2 k3 k4 k5 k6 k7 k8 k9 k10 k11
  subst k0 k1 k2 k3 k4 k5 k6 k7 k8 k9 k10 k11
  simp only [rcN, S_of]
theorem Lr.lnR {n : Ln} {r : Rc} (h : Lr n r) : lnR r = n := by
  obtain ⟨k0, k1, k2, k3, k4, k5, k6, k7, k8, k9, k10, k11, -, -⟩ := h
  obtain ⟨kd, so, se, a, b, st, un, cl, pt, la, tr, inb⟩ := n
  simp only at k0 k1 k2 k3 k4 k5 k6 k7 k8 k9 k10 k11
  simp [Tx.lnR, k0, k1, k2, k3, k4, k5, k6, k7, k8, k9, k10, k11]
theorem lnR_rcN (n : Ln) : lnR (rcN n) = n := by
  obtain ⟨kd, so, se, a, b, st, un, cl, pt, la, tr, inb⟩ := n
  simp [lnR, rcN, S_data]
theorem numB_nil : numB [] = false := by decide
structure ChkOk (r : Rc) : Prop where
  s : r.Small
  a : numB r.sa.data.toList = true
  b : isT r.sb r.s2 = true
  kd : 1 ≤ r.s2 ∧ r.s2 ≤ 4
  p0 : r.s8 = 0 → r.s7 = 0 ∧ r.b9 = false
  t0 : r.s10 = 0 → r.b11 = false
theorem chk_ok {r : Rc} (h : chkR r = 0) : ChkOk r := by
  obtain ⟨h1, h2, h3⟩ := chk_small h
  unfold chkR chkV at h
  cases v0 : inb r.s0 1 99 <;> cases v1 : inb r.s1 1 999999999 <;> rw [v0, v1] at h <;> try (simp at h)
  cases v2 : inb r.s2 1 4 <;> rw [v2] at h <;> try (simp at h)
  simp only [inb, Bool.and_eq_true, decide_eq_true_eq] at v2
  have e2 : r.s8 = 0 → r.s7 = 0 ∧ r.b9 = false := by
    intro z
    by_cases q : r.s7 = 0
    · refine ⟨q, ?_⟩
      cases hb : r.b9 with
      | false => rfl
      | true => rw [h2, h3, z, q, hb] at h; revert h; cases inb r.s5 0 12622780799 <;> cases inb r.s6 0 1099511627776 <;> cases decide (r.s2 = 1) <;> cases decide (604800 < r.s6) <;> cases decide (12622780800 < r.s5 + r.s6) <;> simp [inb]
    · exfalso; rw [h2, h3, z] at h; revert h; cases inb r.s5 0 12622780799 <;> cases inb r.s6 0 1099511627776 <;> cases decide (r.s2 = 1) <;> cases decide (604800 < r.s6) <;> cases decide (12622780800 < r.s5 + r.s6) <;> cases inb r.s7 0 999999999 <;> simp [inb, q]
  have e3 : r.s10 = 0 → r.b11 = false := by
    intro z
    cases hb : r.b11 with
    | false => rfl
    | true => exfalso; rw [h2, h3, z, hb] at h; revert h; cases inb r.s5 0 12622780799 <;> cases inb r.s6 0 1099511627776 <;> cases decide (r.s2 = 1) <;> cases decide (604800 < r.s6) <;> cases decide (12622780800 < r.s5 + r.s6) <;> cases inb r.s7 0 999999999 <;> cases inb r.s8 0 99 <;> cases decide (r.s8 = 0) <;> cases decide (r.s7 = 0) <;> cases r.b9 <;> simp [inb]
  exact ⟨h1, h2, h3, v2, e2, e3⟩
theorem small_len {r : Rc} (h : r.Small) : r.sa.data.toList.length ≤ 100 ∧ r.sb.data.toList.length ≤ 100 := by
  have a := h.la
  have b := h.lb
  constructor
  · have : r.sa.data.toList.length = r.sa.size := by simp
    omega
  · have : r.sb.data.toList.length = r.sb.size := by simp
    omega
theorem numB_dash : numB [45] = false := by decide
theorem isT_dash {b : ByteArray} {k : Int} (h : isT b k = true) : b.data.toList ≠ [45] := by
  intro e
  unfold isT at h
  have hs : b.size = 1 := by
    have : b.data.toList.length = b.size := by simp
    rw [e] at this; exact this.symm
  rw [if_neg (by omega), e, numB_dash] at h
  cases h
theorem lr_of {r : Rc} (h : chkR r = 0) : Lr (lnR r) r := by
  have hs := (chk_ok h).s
  have f := small_len hs
  have t : ∀ {z : Int}, 0 ≤ z ∧ z ≤ 1099511627776 → z = ((z.toNat : Nat) : Int) := fun hz => by omega
  refine ⟨t hs.n0, t hs.n1, t hs.n2, rfl, rfl, t hs.n5, t hs.n6, t hs.n7, t hs.n8, rfl, t hs.n10, rfl, ?_, ?_⟩
  · have := hs.la; unfold maxLen; omega
  · have := hs.lb; unfold maxLen; omega
theorem ln_ok {r : Rc} (h : chkR r = 0) : LnOk (lnR r) := by
  have hc := chk_ok h
  have hs := hc.s
  have f := small_len hs
  have t : ∀ {z : Int}, 0 ≤ z ∧ z ≤ 1099511627776 → z.toNat < 1000000000000000 := fun hz => by omega
  have hk := hc.kd
  refine ⟨?_, ?_, t hs.n0, t hs.n1, t hs.n5, t hs.n6, t hs.n7, t hs.n8, t hs.n10, ?_, isT_dash hc.b, ?_, ?_, f.1, f.2⟩
  · show 1 ≤ r.s2.toNat; omega
  · show r.s2.toNat ≤ 4; omega
  · intro e
    have := hc.a
    rw [show r.sa.data.toList = [] from e, numB_nil] at this
    cases this
  · intro z
    have h8 := hs.n8
    have h7 := hc.p0 (by have : r.s8.toNat = 0 := z; omega)
    exact ⟨by show r.s7.toNat = 0; omega, h7.2⟩
  · intro z
    have h10 := hs.n10
    exact hc.t0 (by have : r.s10.toNat = 0 := z; omega)
theorem rc_back {r : Rc} (h : chkR r = 0) : rcN (lnR r) = r := (lr_of h).eq.symm
/-- The record of a line, and the error. -/
def decT (l : Wd) : Rc × Int := match parseW (spl 32 l) with
  | none => (rcZ, 1)
  | some n => if chkR (rcN n) ≠ 0 then (rcZ, chkR (rcN n)) else if lineR (rcN n) = l then (rcN n, 0) else (rcZ, 1)
theorem dec_none {l : Wd} (h : parseW (spl 32 l) = none) : decT l = (rcZ, 1) := by unfold decT; rw [h]
theorem dec_bad {l : Wd} {n : Ln} (h : parseW (spl 32 l) = some n) (hc : chkR (rcN n) ≠ 0) : decT l = (rcZ, chkR (rcN n)) := by unfold decT; rw [h]; simp only [if_pos hc]
theorem dec_other {l : Wd} {n : Ln} (h : parseW (spl 32 l) = some n) (hc : chkR (rcN n) = 0) (hl : lineR (rcN n) ≠ l) : decT l = (rcZ, 1) := by
  unfold decT; rw [h]; simp only [hc, ne_eq, not_true, if_false, if_neg hl]
theorem dec_yes {l : Wd} {n : Ln} (h : parseW (spl 32 l) = some n) (hc : chkR (rcN n) = 0) (hl : lineR (rcN n) = l) : decT l = (rcN n, 0) := by
  unfold decT; rw [h]; simp only [hc, ne_eq, not_true, if_false, if_pos hl]
/-- A record is decoded from its line. -/
theorem dec_line {r : Rc} (h : chkR r = 0) (hs : spl 32 (lineR r) = wordsL (lnR r)) : decT (lineR r) = (r, 0) := by
  have e : parseW (spl 32 (lineR r)) = some (lnR r) := by rw [hs]; exact parse_words (ln_ok h)
  have hb := rc_back h
  rw [dec_yes e (by rw [hb]; exact h) (by rw [hb]), hb]
/-- What is decoded is the line's record. -/
theorem dec_zero {l : Wd} (h : (decT l).2 = 0) : chkR (decT l).1 = 0 ∧ lineR (decT l).1 = l := by
  unfold decT at h ⊢
  cases hp : parseW (spl 32 l) with
  | none => rw [hp] at h; cases h
  | some n =>
    rw [hp] at h
    simp only at h ⊢
    by_cases hc : chkR (rcN n) = 0
    · by_cases hl : lineR (rcN n) = l
      · rw [if_neg (by simp [hc]), if_pos hl]; exact ⟨hc, hl⟩
      · rw [if_neg (by simp [hc]), if_neg hl] at h; cases h
    · rw [if_pos hc] at h; exact absurd h hc
end Go.Proofs.YtokdfdinnaghmaaDoor.Tx
