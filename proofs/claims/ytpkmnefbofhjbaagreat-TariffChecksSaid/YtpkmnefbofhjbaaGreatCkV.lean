/- Expressions in memory; walks: checkFields, and the reference's own. -/
import Derived.Test.YtpkmnefbofhjbaaGreatCkS
import Derived.Deep.Quiet
namespace Go.Proofs.YtpkmnefbofhjbaaGreat.Ck
open Go Go.Lib Go.RowKit Go.Proofs.YtpkmnefbofhjbaaGreat

/-- A slice that reads as a list of expressions, at most d blocks deep. -/
def XA (w : World) : Nat → Option Addr → List Ex → Prop
  | 0, _, args => args = []
  | d + 1, A, args => ∀ i, i < args.length → ∃ (b off : Nat) (o n : Int) (t : ByteArray) (us : List Ex) (A' : Option Addr) (c' : Nat), A = some ⟨b, off, none⟩ ∧ b < w.heap.size ∧ args[i]? = some (.mk o n t us) ∧
      w.cell? ⟨b, off + i * 4, none⟩ = some (.int .i64 o) ∧ w.cell? ⟨b, off + i * 4 + 1, none⟩ = some (.int .i64 n) ∧ w.cell? ⟨b, off + i * 4 + 2, none⟩ = some (.string t) ∧ w.cell? ⟨b, off + i * 4 + 3, none⟩ = some (.slice A' us.length c') ∧
      us.length ≤ c' ∧ c' ≤ maxLen ∧ t.size ≤ maxLen ∧ XA w d A' us
theorem XA.below {w w' : World} (hb : Below w.heap.size w w') : ∀ {d : Nat} {A : Option Addr} {args : List Ex}, XA w d A args → XA w' d A args
  | 0, _, _, h => h
  | d + 1, A, args, h => fun i hi => by
    obtain ⟨b, off, o, n, t, us, A', c', h1, h2, h3, h4, h5, h6, h7, h8, h9, h10, h11⟩ := h i hi
    exact ⟨b, off, o, n, t, us, A', c', h1, Nat.lt_of_lt_of_le h2 hb.size, h3, (hb.cell (p := ⟨b, off + i * 4, none⟩) h2).trans h4, (hb.cell (p := ⟨b, off + i * 4 + 1, none⟩) h2).trans h5, (hb.cell (p := ⟨b, off + i * 4 + 2, none⟩) h2).trans h6, (hb.cell (p := ⟨b, off + i * 4 + 3, none⟩) h2).trans h7, h8, h9, h10, h11.below hb⟩
theorem XA.nil (w : World) (d : Nat) (A : Option Addr) : XA w d A [] := by
  cases d with
  | zero => rfl
  | succ d => exact fun i hi => absurd hi (Nat.not_lt_zero i)
theorem XA.more {w : World} : ∀ {d : Nat} {A : Option Addr} {args : List Ex}, XA w d A args → XA w (d + 1) A args
  | 0, _, _, h => by cases h; exact XA.nil _ _ _
  | d + 1, A, args, h => fun i hi => by
    obtain ⟨b, off, o, n, t, us, A', c', h1, h2, h3, h4, h5, h6, h7, h8, h9, h10, h11⟩ := h i hi
    exact ⟨b, off, o, n, t, us, A', c', h1, h2, h3, h4, h5, h6, h7, h8, h9, h10, h11.more⟩
theorem XA.mono {w : World} {d d' : Nat} (h : d ≤ d') {A : Option Addr} {args : List Ex} (k : XA w d A args) : XA w d' A args := by
  induction h with
  | refl => exact k
  | step _ ih => exact ih.more
theorem XA.at {w : World} {d : Nat} {A : Option Addr} {args : List Ex} (h : XA w d A args) {i : Nat} (hi : i < args.length) : ∃ (b off : Nat) (o n : Int) (t : ByteArray) (us : List Ex) (A' : Option Addr) (c' : Nat), A = some ⟨b, off, none⟩ ∧ b < w.heap.size ∧ args[i]? = some (.mk o n t us) ∧
      w.cell? ⟨b, off + i * 4, none⟩ = some (.int .i64 o) ∧ w.cell? ⟨b, off + i * 4 + 1, none⟩ = some (.int .i64 n) ∧ w.cell? ⟨b, off + i * 4 + 2, none⟩ = some (.string t) ∧ w.cell? ⟨b, off + i * 4 + 3, none⟩ = some (.slice A' us.length c') ∧
      us.length ≤ c' ∧ c' ≤ maxLen ∧ t.size ≤ maxLen ∧ XA w (d - 1) A' us := by
  cases d with
  | zero => cases h; exact absurd hi (Nat.not_lt_zero i)
  | succ d => exact h i hi
theorem XA.lt {w : World} {d : Nat} {A : Option Addr} {args : List Ex} (h : XA w d A args) {i : Nat} (hi : i < args.length) : 0 < d := by
  cases d with
  | zero => cases h; exact absurd hi (Nat.not_lt_zero i)
  | succ d => exact Nat.succ_pos d
/-- The error of an expression at a level, apart from its operands. -/
def cfE (lv op num : Int) (tx : ByteArray) (n : Nat) : Int := if 16 < lv then 24 else ownE op num tx n
theorem four {w : World} {g : Nat} {t : TypeId} {a b c d : Value} (h : Blk w g t #[a, b, c, d]) : w.cell? ⟨g, 0, none⟩ = some a ∧ w.cell? ⟨g, 1, none⟩ = some b ∧ w.cell? ⟨g, 2, none⟩ = some c ∧ w.cell? ⟨g, 3, none⟩ = some d := ⟨h.cell 0, h.cell 1, h.cell 2, h.cell 3⟩
theorem below_dN {B : Nat} {a w : World} (h : Below B a w) (n : Nat) : Below B a (w.drewN n) := ⟨h.os, h.tape, h.output, h.size, h.block⟩
theorem operands_is {op v : Int} (h : arity op = v) (w : World) : Calls Tryz.prog 119 #[.int .i64 op] w fun e w' => e = .returned (.int .i64 v) ∧ w' = w := by
  subst h; exact (operands_any op w).mono fun e w' h => ⟨h.1, h.2.symm⟩
theorem arity_is {op v : Int} (h : arity op = v) (w : World) : Calls Tryz.prog 122 #[.int .i64 op] w fun e w' => e = .returned (.int .i64 v) ∧ w' = w := by
  subst h; exact (arity_any op w).mono fun e w' h => ⟨h.1, h.2.symm⟩
theorem own_ar {op num : Int} {tx : ByteArray} {n : Nat} (h : ((n : Int) != arity op) = true) : ownE op num tx n = 7 := by
  unfold ownE; rw [if_pos (by simpa using h)]
theorem own_no {op num : Int} {tx : ByteArray} {n : Nat} (h : ((n : Int) != arity op) = false) : ownE op num tx n = if op = 1 ∧ inB num 0 1099511627776 = false then 6 else if op = 2 ∧ 200 < tx.size then 5 else if op = 3 ∧ attr tx = 0 then 11 else 0 := by
  unfold ownE; rw [if_neg (by simpa using h)]
set_option maxRecDepth 100000 in
set_option maxHeartbeats 16000000 in
theorem checkFields_any (lv op num : Int) (tx : ByteArray) (A : Option Addr) (n c : Nat) (w : World) (hc : n ≤ c) (hm : c ≤ maxLen) (ht : tx.size ≤ maxLen) :
    Calls Tryz.prog 113 #[.agg #[.int .i64 op, .int .i64 num, .string tx, .slice A n c], .int .i64 lv] w fun e w' => e = .returned (.int .i64 (cfE lv op num tx n)) ∧ Below w.heap.size w w' := by
  unfold maxLen at hm ht
  have hB := Blk.new w 67 #[.int .i64 op, .int .i64 num, .string tx, .slice A n c]
  obtain ⟨c0, c1, c2, c3⟩ := four hB
  have HB := Lib.hid (below_one w (.cells #[.int .i64 op, .int .i64 num, .string tx, .slice A n c] 67))
  have HBK := Lib.hid hB
  clear hB
  by_cases h16 : 16 < lv
  · have d1 : decide (16 < lv) = true := decide_eq_true h16
    have HR : Hid (cfE lv op num tx n = 24) := Lib.hid (by unfold cfE; rw [if_pos h16])
    clear h16
    go_enter Tryz.func113, Tryz.ntmps113
    go_wp2_with fail
    go_ret
    exact ⟨ret_i HR.out.symm, HB.out⟩
  have d1 : decide (16 < lv) = false := decide_eq_false h16
  have HR : Hid (cfE lv op num tx n = ownE op num tx n) := Lib.hid (by unfold cfE; rw [if_neg h16])
  clear h16
  obtain ⟨a, ha⟩ : ∃ a, arity op = a := ⟨_, rfl⟩
  have HO := Lib.hid (operands_is ha)
  obtain ⟨va, hva⟩ : ∃ v, ((n : Int) != a) = v := ⟨_, rfl⟩
  have HVA : Hid (((n : Int) != arity op) = va) := Lib.hid (by rw [ha]; exact hva)
  clear ha
  cases va
  · have HS := Lib.hid (own_no (num := num) (tx := tx) HVA.out)
    obtain ⟨v1, h1⟩ : ∃ v, (op == 1) = v := ⟨_, rfl⟩
    obtain ⟨v2, h2⟩ : ∃ v, (op == 2) = v := ⟨_, rfl⟩
    obtain ⟨v3, h3⟩ : ∃ v, (op == 3) = v := ⟨_, rfl⟩
    obtain ⟨vn, hn⟩ : ∃ v, inB num 0 1099511627776 = v := ⟨_, rfl⟩
    obtain ⟨vs, hs⟩ : ∃ v, decide (200 < (tx.size : Int)) = v := ⟨_, rfl⟩
    obtain ⟨sv, hsv⟩ : ∃ v, attr tx = v := ⟨_, rfl⟩
    obtain ⟨vt, hvt⟩ : ∃ v, (sv == 0) = v := ⟨_, rfl⟩
    have HN := Lib.hid (within_is hn)
    have HSV := Lib.hid (sort_is hsv)
    have HV : Hid (cfE lv op num tx n = if v1 = true ∧ vn = false then 6 else if v2 = true ∧ vs = true then 5 else if v3 = true ∧ vt = true then 11 else 0) := Lib.hid (by
      rw [HR.out, HS.out, hn, hsv, ← h1, ← h2, ← h3, ← hs, ← hvt]
      simp only [beq_iff_eq, decide_eq_true_eq]
      simp only [show (200 < (tx.size : Int)) = (200 < tx.size) by apply propext; omega])
    clear hn hsv HR HS HVA
    have hex : (v1 = false ∧ v2 = false ∧ v3 = false) ∨ (v1 = false ∧ v2 = false ∧ v3 = true) ∨ (v1 = false ∧ v2 = true ∧ v3 = false) ∨ (v1 = true ∧ v2 = false ∧ v3 = false) := by
      by_cases e1 : op = 1
      · subst e1; subst h1 h2 h3; simp
      · by_cases e2 : op = 2
        · subst e2; subst h1 h2 h3; simp
        · by_cases e3 : op = 3
          · subst e3; subst h1 h2 h3; simp
          · left
            refine ⟨?_, ?_, ?_⟩
            · rw [← h1, beq_eq_false_iff_ne]; exact e1
            · rw [← h2, beq_eq_false_iff_ne]; exact e2
            · rw [← h3, beq_eq_false_iff_ne]; exact e3
    rcases hex with ⟨rfl, rfl, rfl⟩ | ⟨rfl, rfl, rfl⟩ | ⟨rfl, rfl, rfl⟩ | ⟨rfl, rfl, rfl⟩
    · skip
      go_enter Tryz.func113, Tryz.ntmps113
      go_wp2_with fail
      go_quiet ((go_at_call 119; exact Calls.quiet_of_same (HO.out _)))
      generalize hW : World.drewN (w.alloc (.cells #[.int .i64 op, .int .i64 num, .string tx, .slice A n c] 67)) _ = W4
      have HB4 : Hid (Below w.heap.size w W4) := Lib.hid (hW ▸ below_dN HB.out _)
      obtain ⟨c0, c1, c2, c3⟩ := four (hW ▸ HBK.out.drewN _ : Blk W4 _ 67 #[.int .i64 op, .int .i64 num, .string tx, .slice A n c])
      clear hW
      go_wp2_with (first
        | (go_at_call 31; (with_reducible refine (HN.out _).mono ?_); rintro e w1 ⟨rfl, rfl⟩)
        | (go_at_call 120; (with_reducible refine (HSV.out _).mono ?_); rintro e w1 ⟨rfl, rfl⟩))
      go_ret
      exact ⟨ret_i (by rw [HV.out] <;> rfl), HB4.out⟩
    · cases vt
      all_goals
        go_enter Tryz.func113, Tryz.ntmps113
        go_wp2_with fail
        go_quiet ((go_at_call 119; exact Calls.quiet_of_same (HO.out _)))
        generalize hW : World.drewN (w.alloc (.cells #[.int .i64 op, .int .i64 num, .string tx, .slice A n c] 67)) _ = W4
        have HB4 : Hid (Below w.heap.size w W4) := Lib.hid (hW ▸ below_dN HB.out _)
        obtain ⟨c0, c1, c2, c3⟩ := four (hW ▸ HBK.out.drewN _ : Blk W4 _ 67 #[.int .i64 op, .int .i64 num, .string tx, .slice A n c])
        clear hW
        go_wp2_with (first
          | (go_at_call 31; (with_reducible refine (HN.out _).mono ?_); rintro e w1 ⟨rfl, rfl⟩)
          | (go_at_call 120; (with_reducible refine (HSV.out _).mono ?_); rintro e w1 ⟨rfl, rfl⟩))
        go_ret
        exact ⟨ret_i (by rw [HV.out] <;> rfl), HB4.out⟩
    · cases vs
      all_goals
        go_enter Tryz.func113, Tryz.ntmps113
        go_wp2_with fail
        go_quiet ((go_at_call 119; exact Calls.quiet_of_same (HO.out _)))
        generalize hW : World.drewN (w.alloc (.cells #[.int .i64 op, .int .i64 num, .string tx, .slice A n c] 67)) _ = W4
        have HB4 : Hid (Below w.heap.size w W4) := Lib.hid (hW ▸ below_dN HB.out _)
        obtain ⟨c0, c1, c2, c3⟩ := four (hW ▸ HBK.out.drewN _ : Blk W4 _ 67 #[.int .i64 op, .int .i64 num, .string tx, .slice A n c])
        clear hW
        go_wp2_with (first
          | (go_at_call 31; (with_reducible refine (HN.out _).mono ?_); rintro e w1 ⟨rfl, rfl⟩)
          | (go_at_call 120; (with_reducible refine (HSV.out _).mono ?_); rintro e w1 ⟨rfl, rfl⟩))
        go_ret
        exact ⟨ret_i (by rw [HV.out] <;> rfl), HB4.out⟩
    · cases vn
      all_goals
        go_enter Tryz.func113, Tryz.ntmps113
        go_wp2_with fail
        go_quiet ((go_at_call 119; exact Calls.quiet_of_same (HO.out _)))
        generalize hW : World.drewN (w.alloc (.cells #[.int .i64 op, .int .i64 num, .string tx, .slice A n c] 67)) _ = W4
        have HB4 : Hid (Below w.heap.size w W4) := Lib.hid (hW ▸ below_dN HB.out _)
        obtain ⟨c0, c1, c2, c3⟩ := four (hW ▸ HBK.out.drewN _ : Blk W4 _ 67 #[.int .i64 op, .int .i64 num, .string tx, .slice A n c])
        clear hW
        go_wp2_with (first
          | (go_at_call 31; (with_reducible refine (HN.out _).mono ?_); rintro e w1 ⟨rfl, rfl⟩)
          | (go_at_call 120; (with_reducible refine (HSV.out _).mono ?_); rintro e w1 ⟨rfl, rfl⟩))
        go_ret
        exact ⟨ret_i (by rw [HV.out] <;> rfl), HB4.out⟩
  · have HS := Lib.hid (own_ar (num := num) (tx := tx) HVA.out)
    go_enter Tryz.func113, Tryz.ntmps113
    go_wp2_with fail
    go_quiet ((go_at_call 119; exact Calls.quiet_of_same (HO.out _)))
    generalize hW : World.drewN (w.alloc (.cells #[.int .i64 op, .int .i64 num, .string tx, .slice A n c] 67)) _ = W4
    have HB4 : Hid (Below w.heap.size w W4) := Lib.hid (hW ▸ below_dN HB.out _)
    clear hW
    go_wp2_with fail
    go_ret
    exact ⟨ret_i (by rw [HR.out, HS.out] <;> rfl), HB4.out⟩
end Go.Proofs.YtpkmnefbofhjbaaGreat.Ck
