/- Plain facts: the tokens of texts that are put together. -/
import Derived.Test.YtkdimbpmgngajaaDoorLxM
namespace Go.Proofs.YtkdimbpmgngajaaDoor.Lx

theorem tw_stop (p : UInt8 → Bool) (c : UInt8) (r : Wd) (hc : p c = false) : ∀ l : Wd, (l ++ c :: r).takeWhile p = l.takeWhile p ∧ (l ++ c :: r).dropWhile p = l.dropWhile p ++ c :: r
  | [] => by simp [List.takeWhile_cons, List.dropWhile_cons, hc]
  | b :: l => by
    obtain ⟨h1, h2⟩ := tw_stop p c r hc l
    rw [List.cons_append, List.takeWhile_cons, List.dropWhile_cons, List.takeWhile_cons, List.dropWhile_cons]
    cases hb : p b
    · simp
    · simp [h1, h2]
theorem tw_more (p : UInt8 → Bool) (m : Wd) : ∀ l : Wd, l.dropWhile p ≠ [] → (l ++ m).takeWhile p = l.takeWhile p ∧ (l ++ m).dropWhile p = l.dropWhile p ++ m
  | [], h => absurd rfl h
  | b :: l, h => by
    rw [List.cons_append, List.takeWhile_cons, List.dropWhile_cons, List.takeWhile_cons, List.dropWhile_cons]
    rw [List.dropWhile_cons] at h
    cases hb : p b
    · simp
    · rw [hb] at h
      obtain ⟨h1, h2⟩ := tw_more p m l (by simpa using h)
      simp [h1, h2]
theorem skp_nl (t : Wd) : ∀ (c : Bool) (s : Wd), skp c (s ++ 10 :: t) = if skp c s = [] then skp false t else skp c s ++ 10 :: t
  | true, [] => by simp [skp]
  | false, [] => by simp [skp, blkB]
  | true, b :: s => by
    rw [List.cons_append, skp, skp]
    split
    · exact skp_nl t false s
    · exact skp_nl t true s
  | false, b :: s => by
    rw [List.cons_append, skp, skp]
    split
    · exact skp_nl t true s
    · split
      · exact skp_nl t false s
      · simp
/-- What follows a token, with more behind it. -/
def ext (m : Wd) : Except Nat (Nat × Wd × Wd) → Except Nat (Nat × Wd × Wd)
  | .error e => .error e
  | .ok (k, x, r) => .ok (k, x, r ++ m)
theorem qut_nl (x r t : Wd) : qut x (r ++ 10 :: t) = ext (10 :: t) (qut x r) := by
  cases r with
  | nil => simp [qut, ext]
  | cons b r =>
    rw [List.cons_append]
    unfold qut
    simp only
    split
    · split <;> rfl
    · rfl
theorem sym_nl (s t : Wd) (hs : s ≠ []) : sym (s ++ 10 :: t) = (sym s).map fun y => (y.1, y.2 ++ 10 :: t) := by
  match s, hs with
  | [b], _ =>
    rw [List.cons_append, List.nil_append, sym, sym]
    have hd : dblB b 10 = false := by simp [dblB]
    simp only [hd, Bool.false_eq_true, if_false]
    split <;> rfl
  | b :: c :: u, _ =>
    rw [List.cons_append, List.cons_append, sym, sym]
    split
    · rfl
    · split <;> rfl
theorem tok_nl (s t : Wd) (hs : s ≠ []) : tok (s ++ 10 :: t) = ext (10 :: t) (tok s) := by
  match s, hs with
  | b :: u, _ =>
    have e := (tw_stop wrdB 10 t (by decide) (b :: u))
    have e2 := (tw_stop digB 10 t (by decide) (b :: u))
    have e3 := (tw_stop txtB 10 t (by decide) u)
    rw [List.cons_append] at e e2 ⊢
    rw [tok, tok, e.1, e.2, e2.1, e2.2, e3.1, e3.2]
    split
    · split <;> rfl
    · split
      · split
        · rfl
        · have hl : lowH (List.dropWhile digB (b :: u) ++ 10 :: t) = lowH (List.dropWhile digB (b :: u)) := by
            cases List.dropWhile digB (b :: u) with
            | nil => simp [lowH, lowB]
            | cons c r => rfl
          rw [hl]
          split <;> rfl
      · split
        · exact qut_nl _ _ _
        · have := sym_nl (b :: u) t (by simp)
          rw [List.cons_append] at this
          rw [this]
          cases sym (b :: u) with
          | none => rfl
          | some y => rfl
theorem scn_skp {r r' : Wd} (h : skp false r = skp false r') : scn r = scn r' := by
  cases hs : skp false r' with
  | nil => rw [scn_end (h.trans hs), scn_end hs]
  | cons b t =>
    cases ht : tok (b :: t) with
    | error e => rw [scn_err (h.trans hs) (by simp) ht, scn_err hs (by simp) ht]
    | ok y =>
      obtain ⟨k, x, r2⟩ := y
      rw [scn_tok (h.trans hs) ht, scn_tok hs ht]
def shf (n : Nat) (t : Tk) : Tk := ⟨t.k, t.rem + n, t.tx⟩
/-- The tokens of two texts with a line feed between them. -/
theorem scn_nl (t : Wd) : ∀ (n : Nat) (s : Wd), s.length ≤ n → match scn s with
    | .error (m, e) => scn (s ++ 10 :: t) = .error (m + (t.length + 1), e)
    | .ok l => ∃ A, l = A ++ [⟨0, 0, []⟩] ∧ scn (s ++ 10 :: t) = puts (A.map (shf (t.length + 1))) (scn t)
  | n, s, hn => by
    have hk := skp_nl t false s
    cases hs : skp false s with
    | nil =>
      rw [scn_end hs]
      rw [if_pos hs] at hk
      exact ⟨[], rfl, by rw [List.map_nil, puts_nil]; exact scn_skp hk⟩
    | cons b u =>
      rw [if_neg (by rw [hs]; simp), hs] at hk
      have ht := tok_nl (b :: u) t (by simp)
      have hl := skp_le false s
      rw [hs] at hl
      cases hx : tok (b :: u) with
      | error e =>
        rw [hx] at ht
        rw [scn_err hs (by simp) hx]
        simp only
        rw [scn_err hk (by simp) ht]
        simp; omega
      | ok y =>
        obtain ⟨k, x, r⟩ := y
        rw [hx] at ht
        have hlt := tok_lt hx
        match n, hn with
        | 0, hn => simp at hl; omega
        | n + 1, hn =>
          have ih := scn_nl t n r (by simp at hl hlt; omega)
          rw [scn_tok hs hx]
          have h2 := scn_tok hk ht
          rw [h2]
          cases hr : scn r with
          | error e =>
            obtain ⟨m, e⟩ := e
            rw [hr] at ih
            simp only [put] at ih ⊢
            rw [ih]
          | ok l =>
            rw [hr] at ih
            simp only [put] at ih ⊢
            obtain ⟨A, rfl, h3⟩ := ih
            refine ⟨⟨k, (b :: u).length, x⟩ :: A, rfl, ?_⟩
            rw [h3]
            cases scn t with
            | error e => rfl
            | ok l =>
              simp only [put, puts, List.map_cons, List.cons_append]
              simp [shf]; omega
theorem sym_bl {s x t : Wd} (h : sym s = some (x, [])) : sym (s ++ 32 :: t) = some (x, 32 :: t) := by
  match s, h with
  | [b], h =>
    rw [sym] at h
    rw [List.cons_append, List.nil_append, sym]
    have hd : dblB b 32 = false := by simp [dblB]
    simp only [hd, Bool.false_eq_true, if_false]
    split at h
    · rename_i hb
      injection h with h; injection h with h1 h2; subst h1
      rw [if_pos hb]
    · cases h
  | b :: c :: u, h =>
    rw [sym] at h
    rw [List.cons_append, List.cons_append, sym]
    split at h
    · rename_i hb
      injection h with h; injection h with h1 h2; subst h1 h2
      rw [if_pos hb]; rfl
    · split at h
      · injection h with h; injection h with h1 h2; cases h2
      · cases h
/-- A token that is all of a text, with a blank and more behind it. -/
theorem tok_bl {s x t : Wd} {k : Nat} (h : tok s = .ok (k, x, [])) : tok (s ++ 32 :: t) = .ok (k, x, 32 :: t) := by
  match s, h with
  | b :: u, h =>
    have e := (tw_stop wrdB 32 t (by decide) (b :: u))
    have e2 := (tw_stop digB 32 t (by decide) (b :: u))
    rw [List.cons_append] at e e2 ⊢
    rw [tok] at h ⊢
    rw [e.1, e.2, e2.1, e2.2]
    split at h
    · rename_i hb
      rw [if_pos hb]
      split at h
      · cases h
      · rename_i h24
        injection h with h; injection h with h1 h2; injection h2 with h2 h3
        rw [if_neg h24, h1, h2, h3]; rfl
    · rename_i hb
      rw [if_neg hb]
      split at h
      · rename_i hd
        rw [if_pos hd]
        split at h
        · cases h
        · rename_i h16
          split at h
          · cases h
          · injection h with h; injection h with h1 h2; injection h2 with h2 h3
            rw [if_neg h16, h3, h1, h2]
            simp [lowH, lowB]
      · rename_i hd
        rw [if_neg hd]
        split at h
        · rename_i hq
          rw [if_pos hq]
          obtain ⟨rfl, rfl, h3, h4⟩ := qut_ok h
          obtain ⟨e3, e4⟩ := tw_more txtB (32 :: t) u (by rw [h3]; simp)
          rw [e3, e4, h3]
          unfold qut
          simp only [List.cons_append, List.nil_append, beq_self_eq_true, if_true]
          rw [if_neg (by omega)]
        · rename_i hq
          rw [if_neg hq]
          split at h
          · rename_i x' r' hs
            injection h with h; injection h with h1 h2; injection h2 with h2 h3
            subst h1 h2 h3
            have := sym_bl (t := t) hs
            rw [List.cons_append] at this
            rw [this]
          · cases h
theorem skp_head {b : UInt8} {u : Wd} (h : skp false (b :: u) = b :: u) (m : Wd) : skp false (b :: u ++ m) = b :: u ++ m := by
  rw [List.cons_append]
  rw [skp] at h ⊢
  split at h
  · have := skp_le true u
    rw [h] at this
    simp at this
    omega
  · rename_i h1
    rw [if_neg h1]
    split at h
    · have := skp_le false u
      rw [h] at this
      simp at this
      omega
    · rename_i h2
      rw [if_neg h2]
/-- A text that is one token and nothing else. -/
theorem scn_one {k : Nat} {x : Wd} {a b : Tk} (h : scn (src k x) = .ok [a, b]) (hk : a.k = k) (hx : a.tx = x) : skp false (src k x) = src k x ∧ tok (src k x) = .ok (k, x, []) ∧ src k x ≠ [] := by
  cases hs : skp false (src k x) with
  | nil => rw [scn_end hs] at h; injection h with h; injection h with h1 h2; cases h2
  | cons c u =>
    cases ht : tok (c :: u) with
    | error e => rw [scn_err hs (by simp) ht] at h; cases h
    | ok y =>
      obtain ⟨k', x', r⟩ := y
      rw [scn_tok hs ht] at h
      cases hr : scn r with
      | error e => rw [hr] at h; cases h
      | ok l =>
        rw [hr] at h
        simp only [put] at h
        injection h with h
        injection h with h1 h2
        subst h1
        simp only at hk hx
        subst hk hx
        obtain ⟨h3, -⟩ := tok_src ht
        have hl := skp_le false (src k' x')
        rw [hs, h3, List.length_append] at hl
        have hr0 : r = [] := List.length_eq_zero_iff.1 (by omega)
        subst hr0
        rw [List.append_nil] at h3
        rw [h3] at ht hs ⊢
        exact ⟨rfl, ht, by rw [← h3]; simp⟩
/-- One token, a blank, and more. -/
theorem scn_blank {k : Nat} {x : Wd} (h1 : skp false (src k x) = src k x) (h2 : tok (src k x) = .ok (k, x, [])) (h3 : src k x ≠ []) (t : Wd) : scn (src k x ++ 32 :: t) = put ⟨k, (src k x ++ 32 :: t).length, x⟩ (scn t) := by
  cases hs : src k x with
  | nil => exact absurd hs h3
  | cons b u =>
    rw [hs] at h1 h2
    rw [scn_tok (skp_head h1 (32 :: t)) (tok_bl h2)]
    congr 1
    exact scn_skp (by simp [skp, blkB])
end Go.Proofs.YtkdimbpmgngajaaDoor.Lx
