/- Walks of the reference: Source; the mathematics of places. -/
import Derived.Test.YtkdimbpmgngajaaDoorLxRk
namespace Go.Proofs.YtkdimbpmgngajaaDoor.Lx
open Go Go.Lib Go.RowKit Go.Proofs.YtkdimbpmgngajaaDoor Go.Maps

/-- The text of a token as it is written. -/
def srcB (k : Nat) (x : ByteArray) : ByteArray := ⟨⟨src k x.data.toList⟩⟩
theorem srcB_text (x : ByteArray) : ⟨#[34]⟩ ++ x ++ ⟨#[34]⟩ = srcB 3 x := ba_ext (by simp [srcB, src])
theorem srcB_else {k : Nat} (x : ByteArray) (h : k ≠ 3) : x = srcB k x := ba_ext (by simp [srcB, src, h])
set_option maxRecDepth 100000 in
set_option maxHeartbeats 8000000 in
theorem refSource_any (k : Nat) (n p : Int) (x : ByteArray) (w : World) (hk : k ≤ 1000) (hx : x.size ≤ 100000) : Calls Tryd.prog 15 #[.agg #[.int .i64 k, .int .i64 n, .int .i64 p, .string x]] w fun e w' => e = .returned (.string (srcB k x)) ∧ Below w.heap.size w w' := by
  have hB : Below w.heap.size w (w.alloc (.cells #[.int .i64 k, .int .i64 n, .int .i64 p, .string x] 30)) := below_one w _
  have hT : TkB (w.alloc (.cells #[.int .i64 k, .int .i64 n, .int .i64 p, .string x] 30)) w.heap.size k n p x := TkB.new w _ _ _ _
  have HB := Lib.hid hB
  obtain ⟨⟨t0, t1, t2, t3⟩, -⟩ := hT.cells
  clear hB hT
  by_cases h3 : k = 3
  · subst h3
    have hz1 : (1 : Int) + (x.size : Int) ≤ 9223372036854775807 := by omega
    have hz2 : (1 : Int) + (x.size : Int) + 1 ≤ 9223372036854775807 := by omega
    have hz3 : (⟨#[34]⟩ ++ x : ByteArray).size = 1 + x.size := by rw [ByteArray.size_append]; rfl
    go_enter Tryd.func15, Tryd.ntmps15
    go_wp2_with fail
    go_ret
    exact ⟨ret_str (srcB_text x), HB.out⟩
  · have d0 : ((k : Int) == (3 : Int)) = false := by rw [beq_eq_false_iff_ne]; omega
    have HS := Lib.hid (srcB_else x h3)
    clear h3
    go_enter Tryd.func15, Tryd.ntmps15
    go_wp2_with fail
    go_ret
    exact ⟨ret_str HS.out, HB.out⟩
theorem skp_drop : ∀ (c : Bool) (r : Wd), skp c r = r.drop (r.length - (skp c r).length)
  | c, [] => by cases c <;> rfl
  | true, b :: t => by
    have h1 := skp_drop false t
    have h2 := skp_drop true t
    have l1 := skp_le false t
    have l2 := skp_le true t
    rw [skp]
    split
    · rw [List.length_cons, show t.length + 1 - (skp false t).length = (t.length - (skp false t).length) + 1 by omega, List.drop_succ_cons]; exact h1
    · rw [List.length_cons, show t.length + 1 - (skp true t).length = (t.length - (skp true t).length) + 1 by omega, List.drop_succ_cons]; exact h2
  | false, b :: t => by
    have h1 := skp_drop false t
    have h2 := skp_drop true t
    have l1 := skp_le false t
    have l2 := skp_le true t
    rw [skp]
    split
    · rw [List.length_cons, show t.length + 1 - (skp true t).length = (t.length - (skp true t).length) + 1 by omega, List.drop_succ_cons]; exact h2
    · split
      · rw [List.length_cons, show t.length + 1 - (skp false t).length = (t.length - (skp false t).length) + 1 by omega, List.drop_succ_cons]; exact h1
      · rw [Nat.sub_self]; rfl
theorem tok_kind4 {s x r : Wd} {k : Nat} (h : tok s = .ok (k, x, r)) : k ≤ 4 := by
  match s, h with
  | b :: t, h =>
    rw [tok] at h
    split at h
    · split at h
      · cases h
      · injection h with h; injection h with h1 h2; omega
    · split at h
      · split at h
        · cases h
        · split at h
          · cases h
          · injection h with h; injection h with h1 h2; omega
      · split at h
        · have := (qut_ok h).1; omega
        · split at h
          · injection h with h; injection h with h1 h2; omega
          · cases h
/-- What stands behind blanks, from the place at which it stands. -/
theorem skp_from {l : Wd} {a : Nat} (ha : a ≤ l.length) : l.drop (l.length - (skp false (l.drop a)).length) = skp false (l.drop a) := by
  have h1 := skp_drop false (l.drop a)
  have h2 := skp_le false (l.drop a)
  rw [List.length_drop] at h1 h2
  rw [List.drop_drop] at h1
  rw [h1]
  congr 1
  have h3 : (l.drop (a + (l.length - a - (skp false (l.drop a)).length))).length = (skp false (l.drop a)).length := by rw [← h1]
  rw [h3]
  omega
/-- The first of the tokens from a place on. -/
theorem scn_head {l : Wd} {a : Nat} (ha : a ≤ l.length) {t : Tk} {E : List Tk} (h : scn (l.drop a) = .ok (t :: E)) : t.rem = (skp false (l.drop a)).length ∧
    ((t = ⟨0, 0, []⟩ ∧ E = [] ∧ skp false (l.drop a) = []) ∨
     (1 ≤ t.k ∧ t.k ≤ 4 ∧ t.rem ≤ l.length ∧ (src t.k t.tx).length ≤ t.rem ∧ (l.drop (l.length - t.rem)).take (src t.k t.tx).length = src t.k t.tx ∧ scn (l.drop (l.length - t.rem + (src t.k t.tx).length)) = .ok E)) := by
  have hf := skp_from ha
  have hl := skp_le false (l.drop a)
  rw [List.length_drop] at hl
  cases hs : skp false (l.drop a) with
  | nil =>
    rw [scn_end hs] at h
    injection h with h
    injection h with h1 h2
    subst h1 h2
    exact ⟨rfl, .inl ⟨rfl, rfl, rfl⟩⟩
  | cons b u =>
    rw [hs] at hf hl
    cases ht : tok (b :: u) with
    | error e => rw [scn_err hs (by simp) ht] at h; cases h
    | ok y =>
      obtain ⟨k, x, r2⟩ := y
      rw [scn_tok hs ht] at h
      cases hr : scn r2 with
      | error e => rw [hr] at h; cases h
      | ok l2 =>
        rw [hr] at h
        simp only [put] at h
        injection h with h
        injection h with h1 h2
        subst h1 h2
        obtain ⟨h3, h4⟩ := tok_src ht
        refine ⟨rfl, .inr ⟨tok_kind ht, tok_kind4 ht, by simp only at *; omega, ?_, ?_, ?_⟩⟩
        · show (src k x).length ≤ (b :: u).length
          rw [h3, List.length_append]; omega
        · show (l.drop (l.length - (b :: u).length)).take _ = _
          rw [hf, h3, List.take_left]
        · show scn (l.drop (l.length - (b :: u).length + (src k x).length)) = _
          rw [← List.drop_drop, hf, h3, List.drop_left, hr]
end Go.Proofs.YtkdimbpmgngajaaDoor.Lx
