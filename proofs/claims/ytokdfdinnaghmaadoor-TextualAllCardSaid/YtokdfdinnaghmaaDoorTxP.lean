/- Plain facts: the record that words denote, as the program reads them and as the reference does. -/
import Derived.Test.YtokdfdinnaghmaaDoorTxM
namespace Go.Proofs.YtokdfdinnaghmaaDoor.Tx
open Go Go.Lib

abbrev Wd := List UInt8
/-- What a line says. -/
structure Ln where
  kd : Nat
  so : Nat
  se : Nat
  a : Wd
  b : Wd
  st : Nat
  un : Nat
  cl : Nat
  pt : Nat
  la : Bool
  tr : Nat
  inb : Bool
def wPart : Wd := [112, 97, 114, 116]
def wLast : Wd := [108, 97, 115, 116]
def wIn : Wd := [105, 110]
def wOut : Wd := [111, 117, 116]
/-- The kind with a letter; 0 if there is none. -/
def kindW (w : Wd) : Nat := if w = [118] then 1 else if w = [116] then 2 else if w = [100] then 3 else if w = [99] then 4 else 0
def nob (b : Wd) : Wd := if b = [45] then [] else b
def wayW (r : Ln) : List Wd → Option Ln
  | [] => some r
  | [d, n] => if d = wIn ∧ numW n = true then some { r with inb := true, tr := valW n } else if d = wOut ∧ numW n = true then some { r with tr := valW n } else none
  | _ => none
def lastW (r : Ln) : List Wd → Option Ln
  | l :: t => if l = wLast then wayW { r with la := true } t else wayW r (l :: t)
  | [] => wayW r []
def tailW (r : Ln) : List Wd → Option Ln
  | p :: c :: n :: t => if p = wPart then (if numW c = true ∧ numW n = true then lastW { r with cl := valW c, pt := valW n } t else none) else wayW r (p :: c :: n :: t)
  | t => wayW r t
/-- The record that words denote. -/
def parseW : List Wd → Option Ln
  | k :: so :: se :: a :: b :: st :: un :: t =>
    if kindW k ≠ 0 ∧ numW so = true ∧ numW se = true ∧ a ≠ [] ∧ b ≠ [] ∧ numW st = true ∧ numW un = true then
      tailW ⟨kindW k, valW so, valW se, a, nob b, valW st, valW un, 0, 0, false, 0, false⟩ t
    else none
  | _ => none
/-- The program's reader. -/
structure RS where
  rest : List Wd
  wrong : Bool
def rdWord (s : RS) : Wd × RS := match s.rest with
  | [] => ([], { s with wrong := true })
  | w :: t => if w = [] then ([], { s with wrong := true }) else (w, { s with rest := t })
def rdNum (s : RS) : Nat × RS := if numW (rdWord s).1 = true then (valW (rdWord s).1, (rdWord s).2) else (0, { (rdWord s).2 with wrong := true })
def rdKind (s : RS) : Nat × RS := if kindW (rdWord s).1 = 0 then (0, { (rdWord s).2 with wrong := true }) else (kindW (rdWord s).1, (rdWord s).2)
def rdSkip (x : Wd) (s : RS) : Bool × RS := match s.rest with
  | [] => (false, s)
  | w :: t => if w = x then (true, { s with rest := t }) else (false, s)
/-- Behind the seven words. -/
def rdPart (r : Ln) (s : RS) : Ln × RS :=
  if (rdSkip wPart s).1 = true then
    let c := rdNum (rdSkip wPart s).2
    let p := rdNum c.2
    let l := rdSkip wLast p.2
    ({ r with cl := c.1, pt := p.1, la := l.1 }, l.2)
  else (r, (rdSkip wPart s).2)
def rdWay (r : Ln) (s : RS) : Ln × RS :=
  if (rdSkip wIn s).1 = true then
    let n := rdNum (rdSkip wIn s).2
    ({ r with inb := true, tr := n.1 }, n.2)
  else if (rdSkip wOut (rdSkip wIn s).2).1 = true then
    let n := rdNum (rdSkip wOut (rdSkip wIn s).2).2
    ({ r with inb := false, tr := n.1 }, n.2)
  else ({ r with inb := false }, (rdSkip wOut (rdSkip wIn s).2).2)
def rdHead (ws : List Wd) : Ln × RS :=
  let k := rdKind ⟨ws, false⟩
  let so := rdNum k.2
  let se := rdNum so.2
  let a := rdWord se.2
  let b := rdWord a.2
  let st := rdNum b.2
  let un := rdNum st.2
  (⟨k.1, so.1, se.1, a.1, nob b.1, st.1, un.1, 0, 0, false, 0, false⟩, un.2)
def readW (ws : List Wd) : Option Ln :=
  let h := rdHead ws
  let p := rdPart h.1 h.2
  let w := rdWay p.1 p.2
  if w.2.wrong = false ∧ w.2.rest = [] then some w.1 else none
theorem numW_nil : numW [] = false := by decide
theorem word_cons {w : Wd} {t : List Wd} {b : Bool} (h : w ≠ []) : rdWord ⟨w :: t, b⟩ = (w, ⟨t, b⟩) := by simp [rdWord, h]
theorem num_yes {w : Wd} {t : List Wd} {b : Bool} (h : numW w = true) : rdNum ⟨w :: t, b⟩ = (valW w, ⟨t, b⟩) := by
  have hw : w ≠ [] := fun e => by rw [e, numW_nil] at h; cases h
  simp [rdNum, word_cons hw, h]
theorem word_sticky (s : RS) (h : s.wrong = true) : (rdWord s).2.wrong = true := by
  unfold rdWord
  split
  · rfl
  · split
    · rfl
    · exact h
theorem num_sticky (s : RS) (h : s.wrong = true) : (rdNum s).2.wrong = true := by
  unfold rdNum
  split
  · exact word_sticky s h
  · rfl
theorem num_no {s : RS} (h : ∀ w t, s.rest = w :: t → numW w = false) : (rdNum s).2.wrong = true := by
  obtain ⟨r, b⟩ := s
  cases r with
  | nil => simp [rdNum, rdWord, numW_nil]
  | cons w t =>
    have h1 := h w t rfl
    by_cases hw : w = []
    · subst hw; simp [rdNum, rdWord, numW_nil]
    · simp [rdNum, word_cons hw, h1]
theorem skip_sticky (x : Wd) (s : RS) (h : s.wrong = true) : (rdSkip x s).2.wrong = true := by
  unfold rdSkip
  split
  · exact h
  · split <;> exact h
theorem part_sticky (r : Ln) (s : RS) (h : s.wrong = true) : (rdPart r s).2.wrong = true := by
  unfold rdPart
  split
  · exact skip_sticky _ _ (num_sticky _ (num_sticky _ (skip_sticky _ _ h)))
  · exact skip_sticky _ _ h
theorem way_sticky (r : Ln) (s : RS) (h : s.wrong = true) : (rdWay r s).2.wrong = true := by
  unfold rdWay
  split
  · exact num_sticky _ (skip_sticky _ _ h)
  · split
    · exact num_sticky _ (skip_sticky _ _ (skip_sticky _ _ h))
    · exact skip_sticky _ _ (skip_sticky _ _ h)
/-- What the reader's end says. -/
def finW (p : Ln × RS) : Option Ln := if p.2.wrong = false ∧ p.2.rest = [] then some p.1 else none
theorem fin_wrong {p : Ln × RS} (h : p.2.wrong = true) : finW p = none := by simp [finW, h]
theorem way_is (r : Ln) (hr : r.inb = false) (t : List Wd) : finW (rdWay r ⟨t, false⟩) = wayW r t := by
  have hrr : { r with inb := false } = r := by cases r; simp only at hr; subst hr; rfl
  match t with
  | [] => simp [rdWay, rdSkip, finW, wayW, hrr]
  | [d] =>
    by_cases h1 : d = wIn
    · subst h1
      rw [show wayW r [wIn] = none from rfl, fin_wrong]
      simp only [rdWay, rdSkip, if_true]
      exact num_no (s := ⟨[], false⟩) (fun w t h => by cases h)
    · by_cases h2 : d = wOut
      · subst h2
        rw [show wayW r [wOut] = none from rfl, fin_wrong]
        simp only [rdWay, rdSkip, if_neg h1, if_true]
        exact num_no (s := ⟨[], false⟩) (fun w t h => by cases h)
      · simp [rdWay, rdSkip, h1, h2, finW, wayW]
  | d :: n :: t =>
    by_cases h1 : d = wIn
    · subst h1
      cases hn : numW n with
      | true =>
        have h9 : finW (rdWay r ⟨wIn :: n :: t, false⟩) = if t = [] then some { r with inb := true, tr := valW n } else none := by
          simp [rdWay, rdSkip, num_yes hn, finW]
        rw [h9]
        cases t with
        | nil => simp [wayW, hn]
        | cons x t => simp [wayW]
      | false =>
        have h9 : finW (rdWay r ⟨wIn :: n :: t, false⟩) = none := by
          rw [fin_wrong]
          simp only [rdWay, rdSkip, if_true]
          exact num_no (fun w t h => by simp at h; rw [← h.1]; exact hn)
        rw [h9]
        cases t with
        | nil => simp [wayW, hn]
        | cons x t => simp [wayW]
    · by_cases h2 : d = wOut
      · subst h2
        cases hn : numW n with
        | true =>
          have h9 : finW (rdWay r ⟨wOut :: n :: t, false⟩) = if t = [] then some { r with inb := false, tr := valW n } else none := by
            simp [rdWay, rdSkip, h1, num_yes hn, finW]
          rw [h9]
          have hrt : ({ r with inb := false, tr := valW n } : Ln) = { r with tr := valW n } := by cases r; simp only at hr; subst hr; rfl
          cases t with
          | nil => simp [wayW, hn, h1, hrt]
          | cons x t => simp [wayW]
        | false =>
          have h9 : finW (rdWay r ⟨wOut :: n :: t, false⟩) = none := by
            rw [fin_wrong]
            simp only [rdWay, rdSkip, if_neg h1, if_true]
            exact num_no (fun w t h => by simp at h; rw [← h.1]; exact hn)
          rw [h9]
          cases t with
          | nil => simp [wayW, hn]
          | cons x t => simp [wayW]
      · have h9 : finW (rdWay r ⟨d :: n :: t, false⟩) = none := by simp [rdWay, rdSkip, h1, h2, finW]
        rw [h9]
        cases t with
        | nil => simp [wayW, h1, h2]
        | cons x t => simp [wayW]
theorem tail_is (r : Ln) (hr : r.inb = false ∧ r.la = false) (t : List Wd) : (let p := rdPart r ⟨t, false⟩; finW (rdWay p.1 p.2)) = tailW r t := by
  have hpo : wIn ≠ wPart ∧ wOut ≠ wPart := by decide
  by_cases hp : ∃ t', t = wPart :: t'
  · obtain ⟨t', rfl⟩ := hp
    match t' with
    | [] =>
      rw [fin_wrong]
      · simp [tailW, wayW]
      · refine way_sticky _ _ ?_
        simp only [rdPart, rdSkip, if_true]
        exact skip_sticky wLast _ (num_sticky _ (num_no (s := ⟨[], false⟩) (fun w t h => by cases h)))
    | [c] =>
      rw [fin_wrong]
      · simp [tailW, wayW, wPart, wIn, wOut]
      · refine way_sticky _ _ ?_
        simp only [rdPart, rdSkip, if_true]
        cases hc : numW c with
        | true =>
          rw [num_yes hc]
          exact skip_sticky wLast _ (num_no (s := ⟨[], false⟩) (fun w t h => by cases h))
        | false => exact skip_sticky _ _ (num_sticky _ (num_no (fun w t h => by simp at h; rw [← h.1]; exact hc)))
    | c :: n :: t =>
      rw [tailW, if_pos rfl]
      cases hc : numW c with
      | false =>
        rw [if_neg (by simp), fin_wrong]
        refine way_sticky _ _ ?_
        simp only [rdPart, rdSkip, if_true]
        exact skip_sticky _ _ (num_sticky _ (num_no (fun w t h => by simp at h; rw [← h.1]; exact hc)))
      | true =>
        cases hn : numW n with
        | false =>
          rw [if_neg (by simp), fin_wrong]
          refine way_sticky _ _ ?_
          simp only [rdPart, rdSkip, if_true]
          rw [num_yes hc]
          exact skip_sticky _ _ (num_no (fun w t h => by simp at h; rw [← h.1]; exact hn))
        | true =>
          rw [if_pos ⟨rfl, rfl⟩]
          have hs : rdPart r ⟨wPart :: c :: n :: t, false⟩ = ({ r with cl := valW c, pt := valW n, la := (rdSkip wLast ⟨t, false⟩).1 }, (rdSkip wLast ⟨t, false⟩).2) := by
            simp [rdPart, rdSkip, num_yes hc, num_yes hn]
          rw [hs]
          cases t with
          | nil =>
            have h1 : rdSkip wLast ⟨[], false⟩ = (false, ⟨[], false⟩) := rfl
            rw [h1]
            have := way_is { r with cl := valW c, pt := valW n, la := false } hr.1 []
            rw [show lastW { r with cl := valW c, pt := valW n } [] = wayW { r with cl := valW c, pt := valW n } [] from rfl]
            have hl : ({ r with cl := valW c, pt := valW n, la := false } : Ln) = { r with cl := valW c, pt := valW n } := by obtain ⟨_, h2⟩ := hr; cases r; simp only at h2; subst h2; rfl
            rw [hl] at this ⊢
            exact this
          | cons l t =>
            by_cases hl : l = wLast
            · subst hl
              have h1 : rdSkip wLast ⟨wLast :: t, false⟩ = (true, ⟨t, false⟩) := by simp [rdSkip]
              rw [h1, lastW, if_pos rfl]
              exact way_is { r with cl := valW c, pt := valW n, la := true } hr.1 t
            · have h1 : rdSkip wLast ⟨l :: t, false⟩ = (false, ⟨l :: t, false⟩) := by simp [rdSkip, hl]
              rw [h1, lastW, if_neg hl]
              have := way_is { r with cl := valW c, pt := valW n, la := false } hr.1 (l :: t)
              have hll : ({ r with cl := valW c, pt := valW n, la := false } : Ln) = { r with cl := valW c, pt := valW n } := by obtain ⟨_, h2⟩ := hr; cases r; simp only at h2; subst h2; rfl
              rw [hll] at this ⊢
              exact this
  · have hs : rdPart r ⟨t, false⟩ = (r, ⟨t, false⟩) := by
      cases t with
      | nil => rfl
      | cons w t =>
        have hw : w ≠ wPart := fun e => hp ⟨t, by rw [e]⟩
        simp [rdPart, rdSkip, hw]
    rw [hs]
    have := way_is r hr.1 t
    rw [show (finW (rdWay (r, (⟨t, false⟩ : RS)).1 (r, (⟨t, false⟩ : RS)).2)) = finW (rdWay r ⟨t, false⟩) from rfl, this]
    match t with
    | [] => rfl
    | [_] => rfl
    | [_, _] => rfl
    | p :: c :: n :: t =>
      rw [tailW, if_neg (fun e => hp ⟨c :: n :: t, by rw [e]⟩)]
theorem kind_sticky (s : RS) (h : s.wrong = true) : (rdKind s).2.wrong = true := by
  unfold rdKind
  split
  · rfl
  · exact word_sticky s h
theorem kindW_nil : kindW [] = 0 := by decide
theorem kind_yes {w : Wd} {t : List Wd} {b : Bool} (h : kindW w ≠ 0) : rdKind ⟨w :: t, b⟩ = (kindW w, ⟨t, b⟩) := by
  have hw : w ≠ [] := fun e => by rw [e] at h; exact h kindW_nil
  simp [rdKind, word_cons hw, h]
theorem kind_no {w : Wd} {t : List Wd} {b : Bool} (h : kindW w = 0) : (rdKind ⟨w :: t, b⟩).2.wrong = true := by
  unfold rdKind
  by_cases hw : w = []
  · subst hw; simp [rdWord, kindW_nil]
  · simp [word_cons hw, h]
theorem word_no {t : List Wd} {b : Bool} : (rdWord ⟨[] :: t, b⟩).2.wrong = true := by simp [rdWord]
theorem word_len (s : RS) : (rdWord s).2.wrong = true ∨ (rdWord s).2.rest.length + 1 = s.rest.length := by
  obtain ⟨r, b⟩ := s
  cases r with
  | nil => exact .inl rfl
  | cons w t =>
    by_cases hw : w = []
    · subst hw; exact .inl word_no
    · rw [word_cons hw]; exact .inr rfl
theorem num_len' (s : RS) : (rdNum s).2.wrong = true ∨ (rdNum s).2.rest.length + 1 = s.rest.length := by
  unfold rdNum
  split
  · exact word_len s
  · exact .inl rfl
theorem kind_len (s : RS) : (rdKind s).2.wrong = true ∨ (rdKind s).2.rest.length + 1 = s.rest.length := by
  unfold rdKind
  split
  · exact .inl rfl
  · exact word_len s
theorem head_short {ws : List Wd} (h : ws.length < 7) : (rdHead ws).2.wrong = true := by
  simp only [rdHead]
  rcases kind_len ⟨ws, false⟩ with h1 | h1
  · exact num_sticky _ (num_sticky _ (word_sticky _ (word_sticky _ (num_sticky _ (num_sticky _ h1)))))
  rcases num_len' (rdKind ⟨ws, false⟩).2 with h2 | h2
  · exact num_sticky _ (num_sticky _ (word_sticky _ (word_sticky _ (num_sticky _ h2))))
  rcases num_len' (rdNum (rdKind ⟨ws, false⟩).2).2 with h3 | h3
  · exact num_sticky _ (num_sticky _ (word_sticky _ (word_sticky _ h3)))
  rcases word_len (rdNum (rdNum (rdKind ⟨ws, false⟩).2).2).2 with h4 | h4
  · exact num_sticky _ (num_sticky _ (word_sticky _ h4))
  rcases word_len (rdWord (rdNum (rdNum (rdKind ⟨ws, false⟩).2).2).2).2 with h5 | h5
  · exact num_sticky _ (num_sticky _ h5)
  rcases num_len' (rdWord (rdWord (rdNum (rdNum (rdKind ⟨ws, false⟩).2).2).2).2).2 with h6 | h6
  · exact num_sticky _ h6
  rcases num_len' (rdNum (rdWord (rdWord (rdNum (rdNum (rdKind ⟨ws, false⟩).2).2).2).2).2).2 with h7 | h7
  · exact h7
  · simp only at h1
    omega
theorem fin_head {ws : List Wd} (h : (rdHead ws).2.wrong = true) : readW ws = none := by
  have := way_sticky (rdPart (rdHead ws).1 (rdHead ws).2).1 _ (part_sticky (rdHead ws).1 _ h)
  simp [readW, this]
/-- The program reads what the words denote. -/
theorem read_is (ws : List Wd) : readW ws = parseW ws := by
  by_cases hl : ws.length < 7
  · rw [fin_head (head_short hl)]
    match ws, hl with
    | [], _ => rfl
    | [_], _ => rfl
    | [_, _], _ => rfl
    | [_, _, _], _ => rfl
    | [_, _, _, _], _ => rfl
    | [_, _, _, _, _], _ => rfl
    | [_, _, _, _, _, _], _ => rfl
    | _ :: _ :: _ :: _ :: _ :: _ :: _ :: _, h => exact absurd h (by simp)
  · match ws, hl with
    | [], h => exact absurd (by simp) h
    | [_], h => exact absurd (by simp) h
    | [_, _], h => exact absurd (by simp) h
    | [_, _, _], h => exact absurd (by simp) h
    | [_, _, _, _], h => exact absurd (by simp) h
    | [_, _, _, _, _], h => exact absurd (by simp) h
    | [_, _, _, _, _, _], h => exact absurd (by simp) h
    | k :: so :: se :: a :: b :: st :: un :: t, _ =>
      by_cases c1 : kindW k = 0
      · rw [parseW, if_neg (fun h => h.1 c1), fin_head]
        exact num_sticky _ (num_sticky _ (word_sticky _ (word_sticky _ (num_sticky _ (num_sticky _ (kind_no c1))))))
      have r1 := kind_yes (t := so :: se :: a :: b :: st :: un :: t) (b := false) c1
      cases c2 : numW so with
      | false =>
        rw [parseW, if_neg (fun h => by rw [c2] at h; exact absurd h.2.1 (by simp)), fin_head]
        simp only [rdHead, r1]
        exact num_sticky _ (num_sticky _ (word_sticky _ (word_sticky _ (num_sticky _ (num_no (fun w t h => by simp at h; rw [← h.1]; exact c2))))))
      | true =>
        have r2 := num_yes (t := se :: a :: b :: st :: un :: t) (b := false) c2
        cases c3 : numW se with
        | false =>
          rw [parseW, if_neg (fun h => by rw [c3] at h; exact absurd h.2.2.1 (by simp)), fin_head]
          simp only [rdHead, r1, r2]
          exact num_sticky _ (num_sticky _ (word_sticky _ (word_sticky _ (num_no (fun w t h => by simp at h; rw [← h.1]; exact c3)))))
        | true =>
          have r3 := num_yes (t := a :: b :: st :: un :: t) (b := false) c3
          by_cases c4 : a = []
          · rw [parseW, if_neg (fun h => h.2.2.2.1 c4), fin_head]
            simp only [rdHead, r1, r2, r3]
            subst c4
            exact num_sticky _ (num_sticky _ (word_sticky _ word_no))
          have r4 := word_cons (t := b :: st :: un :: t) (b := false) c4
          by_cases c5 : b = []
          · rw [parseW, if_neg (fun h => h.2.2.2.2.1 c5), fin_head]
            simp only [rdHead, r1, r2, r3, r4]
            subst c5
            exact num_sticky _ (num_sticky _ word_no)
          have r5 := word_cons (t := st :: un :: t) (b := false) c5
          cases c6 : numW st with
          | false =>
            rw [parseW, if_neg (fun h => by rw [c6] at h; exact absurd h.2.2.2.2.2.1 (by simp)), fin_head]
            simp only [rdHead, r1, r2, r3, r4, r5]
            exact num_sticky _ (num_no (fun w t h => by simp at h; rw [← h.1]; exact c6))
          | true =>
            have r6 := num_yes (t := un :: t) (b := false) c6
            cases c7 : numW un with
            | false =>
              rw [parseW, if_neg (fun h => by rw [c7] at h; exact absurd h.2.2.2.2.2.2 (by simp)), fin_head]
              simp only [rdHead, r1, r2, r3, r4, r5, r6]
              exact num_no (fun w t h => by simp at h; rw [← h.1]; exact c7)
            | true =>
              have r7 := num_yes (t := t) (b := false) c7
              rw [parseW, if_pos ⟨c1, c2, c3, c4, c5, c6, c7⟩]
              have hh : rdHead (k :: so :: se :: a :: b :: st :: un :: t) = (⟨kindW k, valW so, valW se, a, nob b, valW st, valW un, 0, 0, false, 0, false⟩, ⟨t, false⟩) := by
                simp only [rdHead, r1, r2, r3, r4, r5, r6, r7]
              have := tail_is ⟨kindW k, valW so, valW se, a, nob b, valW st, valW un, 0, 0, false, 0, false⟩ ⟨rfl, rfl⟩ t
              rw [← this]
              simp only [readW, hh, finW]
end Go.Proofs.YtokdfdinnaghmaaDoor.Tx
