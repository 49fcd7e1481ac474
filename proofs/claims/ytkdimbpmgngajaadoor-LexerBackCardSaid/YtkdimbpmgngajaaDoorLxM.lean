/- Plain facts: texts and their tokens. -/
namespace Go.Proofs.YtkdimbpmgngajaaDoor.Lx

abbrev Wd := List UInt8
def blkB (b : UInt8) : Bool := b == 32 || b == 9 || b == 10
def lowB (b : UInt8) : Bool := decide (97 ≤ b.toNat) && decide (b.toNat ≤ 122)
def digB (b : UInt8) : Bool := decide (48 ≤ b.toNat) && decide (b.toNat ≤ 57)
def wrdB (b : UInt8) : Bool := lowB b || digB b || b == 45
def txtB (b : UInt8) : Bool := decide (32 ≤ b.toNat) && decide (b.toNat ≤ 126) && !(b == 34)
def sglB (b : UInt8) : Bool := [59, 44, 43, 45, 58, 40, 41, 61, 60, 62, 42, 47, 37].contains b
/-- What follows blanks and comments; 'true' inside a comment. -/
def skp : Bool → Wd → Wd
  | _, [] => []
  | true, b :: t => if b == 10 then skp false t else skp true t
  | false, b :: t => if b == 35 then skp true t else if blkB b then skp false t else b :: t
/-- A token: its kind, how many bytes stand from it on, its text. -/
structure Tk where
  k : Nat
  rem : Nat
  tx : Wd
deriving DecidableEq
def valD (d : Wd) : Nat := d.foldl (fun n b => 10 * n + (b.toNat - 48)) 0
/-- Two bytes that are one symbol. -/
def dblB (b c : UInt8) : Bool := (b == 60 && (c == 62 || c == 61)) || (b == 62 && c == 61)
def sym : Wd → Option (Wd × Wd)
  | [] => none
  | b :: t => match t with
    | [] => if sglB b then some ([b], []) else none
    | c :: r => if dblB b c then some ([b, c], r) else if sglB b then some ([b], c :: r) else none
def lowH : Wd → Bool
  | [] => false
  | b :: _ => lowB b
def qut (x r : Wd) : Except Nat (Nat × Wd × Wd) := match r with
  | [] => .error 1
  | b :: r2 => if b == 34 then if 200 < x.length then .error 5 else .ok (3, x, r2) else .error 1
/-- The token with which a text begins, and what follows it. -/
def tok : Wd → Except Nat (Nat × Wd × Wd)
  | [] => .error 1
  | b :: t =>
    if lowB b then if 24 < ((b :: t).takeWhile wrdB).length then .error 5 else .ok (1, (b :: t).takeWhile wrdB, (b :: t).dropWhile wrdB)
    else if digB b then if 16 < ((b :: t).takeWhile digB).length then .error 5 else if lowH ((b :: t).dropWhile digB) then .error 1 else .ok (2, (b :: t).takeWhile digB, (b :: t).dropWhile digB)
    else if b == 34 then qut (t.takeWhile txtB) (t.dropWhile txtB)
    else match sym (b :: t) with
      | some (x, r) => .ok (4, x, r)
      | none => .error 1
def scF : Nat → Wd → Except (Nat × Nat) (List Tk)
  | 0, _ => .ok []
  | k + 1, r => match skp false r with
    | [] => .ok [⟨0, 0, []⟩]
    | b :: t => match tok (b :: t) with
      | .error e => .error ((b :: t).length, e)
      | .ok (kd, x, r2) => match scF k r2 with
        | .error e => .error e
        | .ok l => .ok (⟨kd, (b :: t).length, x⟩ :: l)
/-- The tokens of a text; or how many bytes stand from the first error on, and the error. -/
def scn (r : Wd) : Except (Nat × Nat) (List Tk) := scF (r.length + 1) r
theorem skp_le : ∀ (c : Bool) (r : Wd), (skp c r).length ≤ r.length
  | _, [] => by cases ‹Bool› <;> simp [skp]
  | true, b :: t => by
    rw [skp]
    split
    · exact Nat.le_succ_of_le (skp_le false t)
    · exact Nat.le_succ_of_le (skp_le true t)
  | false, b :: t => by
    rw [skp]
    split
    · exact Nat.le_succ_of_le (skp_le true t)
    · split
      · exact Nat.le_succ_of_le (skp_le false t)
      · exact Nat.le_refl _
theorem take_drop_len (p : UInt8 → Bool) (l : Wd) : (l.takeWhile p).length + (l.dropWhile p).length = l.length := by
  rw [← List.length_append, List.takeWhile_append_dropWhile]
theorem sym_len {s x r : Wd} (h : sym s = some (x, r)) : s = x ++ r ∧ 0 < x.length := by
  match s, h with
  | [b], h =>
    rw [sym] at h
    split at h
    · injection h with h; injection h with h1 h2; subst h1 h2; exact ⟨rfl, by simp⟩
    · cases h
  | b :: c :: t, h =>
    rw [sym] at h
    split at h
    · injection h with h; injection h with h1 h2; subst h1 h2; exact ⟨rfl, by simp⟩
    · split at h
      · injection h with h; injection h with h1 h2; subst h1 h2; exact ⟨rfl, by simp⟩
      · cases h
/-- The text of a token as it is written. -/
def src (k : Nat) (x : Wd) : Wd := if k = 3 then [34] ++ x ++ [34] else x
theorem qut_ok {x r r2 y : Wd} {k : Nat} (h : qut x r = .ok (k, y, r2)) : k = 3 ∧ y = x ∧ r = 34 :: r2 ∧ x.length ≤ 200 := by
  unfold qut at h
  split at h
  · cases h
  · split at h
    · rename_i hb
      split at h
      · cases h
      · injection h with h
        injection h with h1 h2
        injection h2 with h2 h3
        subst h1 h2 h3
        refine ⟨rfl, rfl, ?_, by omega⟩
        rw [eq_of_beq hb]
    · cases h
/-- A token is its text, and what follows; it has a byte. -/
theorem tok_src {s x r : Wd} {k : Nat} (h : tok s = .ok (k, x, r)) : s = src k x ++ r ∧ 0 < (src k x).length := by
  match s, h with
  | b :: t, h =>
    rw [tok] at h
    split at h
    · rename_i hb
      split at h
      · cases h
      · injection h with h
        injection h with h1 h2
        injection h2 with h2 h3
        subst h1 h2 h3
        unfold src
        rw [if_neg (by decide)]
        refine ⟨(List.takeWhile_append_dropWhile).symm, ?_⟩
        rw [List.takeWhile_cons, if_pos (by unfold wrdB; rw [hb]; rfl)]; simp
    · split at h
      · rename_i hb
        split at h
        · cases h
        · split at h
          · cases h
          · injection h with h
            injection h with h1 h2
            injection h2 with h2 h3
            subst h1 h2 h3
            unfold src
            rw [if_neg (by decide)]
            refine ⟨(List.takeWhile_append_dropWhile).symm, ?_⟩
            rw [List.takeWhile_cons, if_pos hb]; simp
      · split at h
        · rename_i hb
          obtain ⟨rfl, rfl, h3, -⟩ := qut_ok h
          unfold src
          rw [if_pos rfl]
          refine ⟨?_, by simp⟩
          have e := List.takeWhile_append_dropWhile (p := txtB) (l := t)
          rw [h3] at e
          rw [eq_of_beq hb, List.append_assoc, List.append_assoc]
          show 34 :: t = 34 :: (t.takeWhile txtB ++ ([34] ++ r))
          rw [show [34] ++ r = 34 :: r from rfl, e]
        · split at h
          · rename_i x' r' hs
            injection h with h
            injection h with h1 h2
            injection h2 with h2 h3
            subst h1 h2 h3
            have := sym_len hs
            unfold src
            rw [if_neg (by decide)]
            exact this
          · cases h
theorem tok_lt {s x r : Wd} {k : Nat} (h : tok s = .ok (k, x, r)) : r.length < s.length := by
  obtain ⟨h1, h2⟩ := tok_src h
  rw [h1, List.length_append]; omega
theorem scF_fuel : ∀ (k m : Nat) (r : Wd), r.length < k → r.length < m → scF k r = scF m r
  | k + 1, m + 1, r, hk, hm => by
    rw [scF, scF]
    have hl := skp_le false r
    cases hs : skp false r with
    | nil => rfl
    | cons b t =>
      rw [hs] at hl
      simp only
      cases ht : tok (b :: t) with
      | error e => rfl
      | ok y =>
        obtain ⟨kd, x, r2⟩ := y
        have := tok_lt ht
        simp only
        rw [scF_fuel k m r2 (by omega) (by omega)]
theorem scn_end {r : Wd} (h : skp false r = []) : scn r = .ok [⟨0, 0, []⟩] := by
  unfold scn; rw [scF, h]
theorem scn_err {r s : Wd} {e : Nat} (h : skp false r = s) (hn : s ≠ []) (ht : tok s = .error e) : scn r = .error (s.length, e) := by
  subst h
  unfold scn; rw [scF]
  cases hs : skp false r with
  | nil => exact absurd hs hn
  | cons b t =>
    rw [hs] at ht
    simp only [ht]
/-- A token ahead of what follows. -/
def put (t : Tk) : Except (Nat × Nat) (List Tk) → Except (Nat × Nat) (List Tk)
  | .error e => .error e
  | .ok l => .ok (t :: l)
theorem scn_tok {r s x r2 : Wd} {k : Nat} (h : skp false r = s) (ht : tok s = .ok (k, x, r2)) : scn r = put ⟨k, s.length, x⟩ (scn r2) := by
  subst h
  have hl := skp_le false r
  unfold scn; rw [scF]
  cases hs : skp false r with
  | nil => rw [hs] at ht; cases ht
  | cons b t =>
    rw [hs] at ht hl
    have := tok_lt ht
    simp only [ht]
    rw [scF_fuel r.length (r2.length + 1) r2 (by simp at hl this; omega) (by omega)]
    cases scF (r2.length + 1) r2 <;> rfl
/-- Tokens ahead of what follows. -/
def puts (D : List Tk) : Except (Nat × Nat) (List Tk) → Except (Nat × Nat) (List Tk)
  | .error e => .error e
  | .ok l => .ok (D ++ l)
theorem puts_nil (x : Except (Nat × Nat) (List Tk)) : puts [] x = x := by cases x <;> rfl
theorem puts_put (D : List Tk) (t : Tk) (x : Except (Nat × Nat) (List Tk)) : puts D (put t x) = puts (D ++ [t]) x := by
  cases x with
  | error e => rfl
  | ok l => simp [puts, put]
end Go.Proofs.YtkdimbpmgngajaaDoor.Lx
