/- Walks of the small functions of eval: within, operate, attribute, text, agrees, is. -/
import Derived.Test.YtklpaonhmmfioaaCkE
import Derived.Test.YtklpaonhmmfioaaEvM
namespace Go.Proofs.Ytklpaonhmmfioaa.Ck
open Go Go.Lib Go.RowKit Go.Proofs.Ytklpaonhmmfioaa

/-- A value or none, as it is returned. -/
def OV (x : Option Int) (m : Int) (b : Bool) : Prop := m = x.getD 0 ∧ b = x.isSome
theorem OV.ex (x : Option Int) : ∃ m b, OV x m b := ⟨_, _, rfl, rfl⟩
theorem OV.no {x : Option Int} {m : Int} (h : OV x m false) : x = none ∧ m = 0 := by
  obtain ⟨h1, h2⟩ := h
  cases x with
  | none => exact ⟨rfl, h1⟩
  | some p => cases h2
theorem OV.yes {x : Option Int} {m : Int} (h : OV x m true) : x = some m := by
  obtain ⟨h1, h2⟩ := h
  cases x with
  | none => cases h2
  | some p => rw [h1]; rfl
theorem nb_yes {n : Int} (h : inB n (-4611686018427387904) 4611686018427387904 = true) : nb n = some n := by
  have := (inB_iff h).1 rfl
  unfold nb; rw [if_pos this]
theorem nb_no {n : Int} (h : inB n (-4611686018427387904) 4611686018427387904 = false) : nb n = none := by
  have := (inB_iff h).2 rfl
  unfold nb; rw [if_neg (by omega)]
theorem evWithin_is {n m : Int} {b : Bool} (h : OV (nb n) m b) (w : World) : Calls Try.prog 33 #[.int .i64 n] w fun e w' => e = .returned (.tuple #[.int .i64 m, .bool b]) ∧ w' = w := by
  cases hv : inB n (-4611686018427387904) 4611686018427387904
  · have h2 : nb n = none := nb_no hv
    rw [h2] at h
    obtain ⟨rfl, rfl⟩ := h
    have HW := Lib.hid (within_is hv)
    clear hv h2
    go_enter Try.func33, Try.ntmps33
    go_wp2_with (go_at_call 50; (with_reducible refine (HW.out _).mono ?_); rintro e w1 ⟨rfl, rfl⟩)
    go_ret2
    exact ⟨rfl, rfl⟩
  · have h2 : nb n = some n := nb_yes hv
    rw [h2] at h
    obtain ⟨rfl, rfl⟩ := h
    have HW := Lib.hid (within_is hv)
    clear hv h2
    go_enter Try.func33, Try.ntmps33
    go_wp2_with (go_at_call 50; (with_reducible refine (HW.out _).mono ?_); rintro e w1 ⟨rfl, rfl⟩)
    go_ret2
    exact ⟨rfl, rfl⟩
theorem nine {w : World} {g : Nat} {t : TypeId} {a b c d e f x y z : Value} (h : Blk w g t #[a, b, c, d, e, f, x, y, z]) : w.cell? ⟨g, 0, none⟩ = some a ∧ w.cell? ⟨g, 1, none⟩ = some b ∧ w.cell? ⟨g, 2, none⟩ = some c ∧ w.cell? ⟨g, 3, none⟩ = some d ∧ w.cell? ⟨g, 4, none⟩ = some e ∧ w.cell? ⟨g, 5, none⟩ = some f ∧ w.cell? ⟨g, 6, none⟩ = some x ∧ w.cell? ⟨g, 7, none⟩ = some y ∧ w.cell? ⟨g, 8, none⟩ = some z :=
  ⟨h.cell 0, h.cell 1, h.cell 2, h.cell 3, h.cell 4, h.cell 5, h.cell 6, h.cell 7, h.cell 8⟩
set_option maxRecDepth 100000 in
set_option maxHeartbeats 8000000 in
theorem attN_any (v : En) (s : ByteArray) (n : Int) (h : attN v s = n) (w : World) : Calls Try.prog 34 #[.string s, .agg #[.int .i64 v.a0, .int .i64 v.a1, .int .i64 v.a2, .int .i64 v.a3, .int .i64 v.a4, .int .i64 v.a5, .string v.zn, .string v.bn, .bool v.fm]] w fun e w' => e = .returned (.int .i64 n) ∧ Below w.heap.size w w' := by
  subst h
  have HB := Lib.hid (below_one w (.cells #[.int .i64 v.a0, .int .i64 v.a1, .int .i64 v.a2, .int .i64 v.a3, .int .i64 v.a4, .int .i64 v.a5, .string v.zn, .string v.bn, .bool v.fm] 26))
  obtain ⟨c0, c1, c2, c3, c4, c5, c6, c7, c8⟩ := nine (Blk.new w 26 #[.int .i64 v.a0, .int .i64 v.a1, .int .i64 v.a2, .int .i64 v.a3, .int .i64 v.a4, .int .i64 v.a5, .string v.zn, .string v.bn, .bool v.fm])
  unfold attN isT
  cases h0 : (s.toList == [107, 105, 110, 100])
  case true =>
    go_enter Try.func34, Try.ntmps34
    go_wp2_with fail
    go_ret
    exact ⟨rfl, HB.out⟩
  cases h1 : (s.toList == [117, 110, 105, 116, 115])
  case true =>
    go_enter Try.func34, Try.ntmps34
    go_wp2_with fail
    go_ret
    exact ⟨rfl, HB.out⟩
  cases h2 : (s.toList == [119, 101, 101, 107, 100, 97, 121])
  case true =>
    go_enter Try.func34, Try.ntmps34
    go_wp2_with fail
    go_ret
    exact ⟨rfl, HB.out⟩
  cases h3 : (s.toList == [109, 105, 110, 117, 116, 101])
  case true =>
    go_enter Try.func34, Try.ntmps34
    go_wp2_with fail
    go_ret
    exact ⟨rfl, HB.out⟩
  cases h4 : (s.toList == [116, 111, 116, 97, 108])
  all_goals
    go_enter Try.func34, Try.ntmps34
    go_wp2_with fail
    go_ret
    exact ⟨rfl, HB.out⟩
theorem agrees_is {op o : Int} {b : Bool} (h : agr op o = b) (hop : op = 7 ∨ op = 8 ∨ op = 9 ∨ op = 10) (w : World) : Calls Try.prog 44 #[.int .i64 op, .int .i64 o] w fun e w' => e = .returned (.bool b) ∧ w' = w := by
  subst h
  rcases hop with rfl | rfl | rfl | rfl
  · have HR : Hid (agr 7 o = (o == 0)) := Lib.hid (show decide (o = 0) = (o == 0) by by_cases h : o = 0 <;> simp [h])
    go_enter Try.func44, Try.ntmps44
    go_wp2
    go_ret
    exact ⟨ret_b HR.out.symm, rfl⟩
  · have HR : Hid (agr 8 o = (o != 0)) := Lib.hid (show decide (o ≠ 0) = (o != 0) by by_cases h : o = 0 <;> simp [h])
    go_enter Try.func44, Try.ntmps44
    go_wp2
    go_ret
    exact ⟨ret_b HR.out.symm, rfl⟩
  · have HR : Hid (agr 9 o = decide (o < 0)) := Lib.hid (by unfold agr; rw [if_neg (by decide), if_neg (by decide), if_pos rfl])
    go_enter Try.func44, Try.ntmps44
    go_wp2
    go_ret
    exact ⟨ret_b HR.out.symm, rfl⟩
  · have HR : Hid (agr 10 o = decide (o ≤ 0)) := Lib.hid (by unfold agr; rw [if_neg (by decide), if_neg (by decide), if_neg (by decide)])
    cases h1 : decide (o < 0)
    · have HE : Hid (decide (o ≤ 0) = (o == 0)) := Lib.hid (by
        have := of_decide_eq_false h1
        by_cases h2 : o = 0
        · subst h2; rfl
        · rw [decide_eq_false (by omega)]; simp [h2])
      go_enter Try.func44, Try.ntmps44
      go_wp2
      go_ret
      exact ⟨ret_b (by rw [HR.out, HE.out]), rfl⟩
    · have HE : Hid (decide (o ≤ 0) = true) := Lib.hid (by
        have := of_decide_eq_true h1
        rw [decide_eq_true (by omega)])
      go_enter Try.func44, Try.ntmps44
      go_wp2
      go_ret
      exact ⟨ret_b (by rw [HR.out, HE.out]), rfl⟩
set_option maxRecDepth 100000 in
set_option maxHeartbeats 8000000 in
theorem text_is {v : En} {op num : Int} {tx : ByteArray} {args : List Ex} {t : ByteArray} (h : txtV v (.mk op num tx args) = t) (A : Option Addr) (n c : Nat) (w : World) :
    Calls Try.prog 28 #[.agg #[.int .i64 op, .int .i64 num, .string tx, .slice A n c], .agg #[.int .i64 v.a0, .int .i64 v.a1, .int .i64 v.a2, .int .i64 v.a3, .int .i64 v.a4, .int .i64 v.a5, .string v.zn, .string v.bn, .bool v.fm]] w fun e w' => e = .returned (.string t) ∧ Below w.heap.size w w' := by
  subst h
  have HB1 := below_one w (.cells #[.int .i64 op, .int .i64 num, .string tx, .slice A n c] 24)
  have HBK := (Blk.new w 24 #[.int .i64 op, .int .i64 num, .string tx, .slice A n c]).alloc (.cells #[.int .i64 v.a0, .int .i64 v.a1, .int .i64 v.a2, .int .i64 v.a3, .int .i64 v.a4, .int .i64 v.a5, .string v.zn, .string v.bn, .bool v.fm] 26)
  obtain ⟨c0, c1, c2, c3⟩ := four HBK
  have HEK := (Blk.new (w.alloc (.cells #[.int .i64 op, .int .i64 num, .string tx, .slice A n c] 24)) 26 #[.int .i64 v.a0, .int .i64 v.a1, .int .i64 v.a2, .int .i64 v.a3, .int .i64 v.a4, .int .i64 v.a5, .string v.zn, .string v.bn, .bool v.fm])
  rw [show (w.alloc (.cells #[.int .i64 op, .int .i64 num, .string tx, .slice A n c] 24)).heap.size = w.heap.size + 1 by simp] at HEK
  obtain ⟨d0, d1, d2, d3, d4, d5, d6, d7, d8⟩ := nine HEK
  have HB := Lib.hid (HB1.alloc (by simp) (.cells #[.int .i64 v.a0, .int .i64 v.a1, .int .i64 v.a2, .int .i64 v.a3, .int .i64 v.a4, .int .i64 v.a5, .string v.zn, .string v.bn, .bool v.fm] 26))
  clear HB1 HBK HEK
  unfold txtV isT
  by_cases hop : op = 2
  · subst hop
    go_enter Try.func28, Try.ntmps28
    go_wp2_with fail
    go_ret
    exact ⟨rfl, HB.out⟩
  have h0 : (op == 2) = false := by simpa using hop
  have HE := Lib.hid hop
  clear hop
  cases h1 : (tx.toList == [122, 111, 110, 101])
  all_goals
    go_enter Try.func28, Try.ntmps28
    go_wp2_with fail
    go_ret
    exact ⟨by first | rfl | (rw [if_neg HE.out]; rfl), HB.out⟩
set_option maxRecDepth 100000 in
set_option maxHeartbeats 8000000 in
theorem is_is {op num : Int} {tx : ByteArray} {args : List Ex} {s v : Int} (h : sortX 16 (.mk op num tx args) = (s, v)) (z : Int) (b : Bool) (hb : (v == 0 && s == z) = b) (A : Option Addr) (d n c : Nat) (w : World) (hA : XA w d A args) (hn : args.length = n) (hc : n ≤ c) (hm : c ≤ maxLen) (ht : tx.size ≤ maxLen) :
    Calls Try.prog 24 #[.agg #[.int .i64 op, .int .i64 num, .string tx, .slice A n c], .int .i64 z] w fun e w' => e = .returned (.bool b) ∧ Below w.heap.size w w' := by
  have HB := Lib.hid (below_one w (.cells #[.int .i64 op, .int .i64 num, .string tx, .slice A n c] 24))
  obtain ⟨c0, c1, c2, c3⟩ := four (Blk.new w 24 #[.int .i64 op, .int .i64 num, .string tx, .slice A n c])
  have HC := Lib.hid (expr_is h A d n c _ (hA.below HB.out) hn hc hm ht)
  have HV := Lib.hid hb
  clear hA hn h hb
  cases h0 : (v == 0)
  · rw [h0] at HV
    go_enter Try.func24, Try.ntmps24
    go_wp2_with (go_at_call 20; (with_reducible refine HC.out.mono ?_); rintro e w1 ⟨rfl, hb1⟩; have HB1 := Lib.hid (HB.out.trans (hb1.mono HB.out.size)); clear hb1 c0 c1 c2 c3)
    go_ret
    exact ⟨ret_b HV.out, HB1.out⟩
  · rw [h0] at HV
    go_enter Try.func24, Try.ntmps24
    go_wp2_with (go_at_call 20; (with_reducible refine HC.out.mono ?_); rintro e w1 ⟨rfl, hb1⟩; have HB1 := Lib.hid (HB.out.trans (hb1.mono HB.out.size)); clear hb1 c0 c1 c2 c3)
    go_ret
    exact ⟨ret_b HV.out, HB1.out⟩
end Go.Proofs.Ytklpaonhmmfioaa.Ck
