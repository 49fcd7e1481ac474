/- Plain facts: the record that words denote, as the reference takes it. -/
import Derived.Test.YtokdfdinnaghmaaDoorTxVl
import Derived.Test.YtokdfdinnaghmaaDoorTxP
import Derived.Test.YtokdfdinnaghmaaDoorRcS
namespace Go.Proofs.YtokdfdinnaghmaaDoor.Tx
open Go Go.Lib

/-- What the part's words say, and what is left. -/
structure PZ where
  cl : Int
  pt : Int
  la : Bool
  rest : List Wd
def pzPart : List Wd → PZ
  | p :: c :: n :: t => if p = wPart then (match t with
      | l :: t' => if l = wLast then ⟨vZ c, vZ n, true, t'⟩ else ⟨vZ c, vZ n, false, l :: t'⟩
      | [] => ⟨vZ c, vZ n, false, []⟩) else ⟨0, 0, false, p :: c :: n :: t⟩
  | t => ⟨0, 0, false, t⟩
/-- What the way's words say. -/
structure WZ where
  inb : Bool
  tr : Int
  rest : List Wd
def wzWay : List Wd → WZ
  | d :: n :: t => if d = wIn then ⟨true, vZ n, t⟩ else if d = wOut then ⟨false, vZ n, t⟩ else ⟨false, 0, d :: n :: t⟩
  | t => ⟨false, 0, t⟩
theorem vZ_neg {l : Wd} : vZ l < 0 ↔ numW l = false := by
  unfold vZ
  cases numW l
  · simp
  · simp <;> omega
theorem vZ_pos {l : Wd} : 0 ≤ vZ l ↔ numW l = true := by
  unfold vZ
  cases numW l
  · simp
  · simp
theorem wayZ (r : Ln) (hr : r.inb = false ∧ r.tr = 0) (t : List Wd) : wayW r t = if 0 ≤ (wzWay t).tr ∧ (wzWay t).rest = [] then some { r with inb := (wzWay t).inb, tr := (wzWay t).tr.toNat } else none := by
  have hrr : { r with inb := false, tr := 0 } = r := by obtain ⟨h1, h2⟩ := hr; cases r; simp only at h1 h2; subst h1; subst h2; rfl
  match t with
  | [] => simp [wayW, wzWay, hrr]
  | [d] => simp [wayW, wzWay]
  | [d, n] =>
    by_cases h1 : d = wIn
    · subst h1
      cases hn : numW n <;> simp [wayW, wzWay, vZ, hn]
    · by_cases h2 : d = wOut
      · subst h2
        have h3 : ({ r with inb := false, tr := valW n } : Ln) = { r with tr := valW n } := by have := hr.1; cases r; simp only at this; subst this; rfl
        cases hn : numW n <;> simp [wayW, wzWay, vZ, hn, h1, h3]
      · simp [wayW, wzWay, h1, h2]
  | d :: n :: x :: t =>
    by_cases h1 : d = wIn
    · subst h1; simp [wayW, wzWay]
    · by_cases h2 : d = wOut
      · subst h2; simp [wayW, wzWay, h1]
      · simp [wayW, wzWay, h1, h2]
theorem tailZ (r : Ln) (hr : r.inb = false ∧ r.tr = 0) (hp : r.cl = 0 ∧ r.pt = 0 ∧ r.la = false) (t : List Wd) :
    tailW r t = if 0 ≤ (pzPart t).cl ∧ 0 ≤ (pzPart t).pt then wayW { r with cl := (pzPart t).cl.toNat, pt := (pzPart t).pt.toNat, la := (pzPart t).la } (pzPart t).rest else none := by
  have hrr : { r with cl := 0, pt := 0, la := false } = r := by obtain ⟨h1, h2, h3⟩ := hp; cases r; simp only at h1 h2 h3; subst h1; subst h2; subst h3; rfl
  match t with
  | [] => simp [tailW, pzPart, hrr]
  | [d] => simp [tailW, pzPart, hrr]
  | [d, n] => simp [tailW, pzPart, hrr]
  | p :: c :: n :: t =>
    by_cases h1 : p = wPart
    · subst h1
      have h3 : ∀ a b : Nat, ({ r with cl := a, pt := b, la := false } : Ln) = { r with cl := a, pt := b } := fun a b => by have := hp.2.2; cases r; simp only at this; subst this; rfl
      match t with
      | [] =>
        cases hc : numW c <;> cases hn : numW n <;> simp [tailW, pzPart, vZ, hc, hn, lastW, h3]
      | l :: t' =>
        by_cases h2 : l = wLast
        · cases hc : numW c <;> cases hn : numW n <;> simp [tailW, pzPart, vZ, hc, hn, lastW, h2]
        · cases hc : numW c <;> cases hn : numW n <;> simp [tailW, pzPart, vZ, hc, hn, lastW, h2, h3]
    · simp [tailW, pzPart, h1, hrr]
/-- What the seven words, the part and the way say together. -/
structure HZ where
  kd : Nat
  so : Int
  se : Int
  a : Wd
  b : Wd
  st : Int
  un : Int
def okZ (h : HZ) (p : PZ) (y : WZ) : Bool := decide (y.rest = []) && decide (0 < h.kd) && !(decide (h.so < 0) || decide (h.se < 0) || decide (h.st < 0) || decide (h.un < 0) || decide (p.cl < 0) || decide (p.pt < 0) || decide (y.tr < 0))
def lnZ (h : HZ) (p : PZ) (y : WZ) : Ln := ⟨h.kd, h.so.toNat, h.se.toNat, h.a, h.b, h.st.toNat, h.un.toNat, p.cl.toNat, p.pt.toNat, p.la, y.tr.toNat, y.inb⟩
theorem parse_short : ∀ {ws : List Wd}, ws.length < 7 → parseW ws = none
  | [], _ => rfl
  | [_], _ => rfl
  | [_, _], _ => rfl
  | [_, _, _], _ => rfl
  | [_, _, _, _], _ => rfl
  | [_, _, _, _, _], _ => rfl
  | [_, _, _, _, _, _], _ => rfl
  | _ :: _ :: _ :: _ :: _ :: _ :: _ :: _, h => by simp at h; omega
theorem parse_empty {k so se a b st un : Wd} {t : List Wd} (h : a = [] ∨ b = []) : parseW (k :: so :: se :: a :: b :: st :: un :: t) = none := by
  rw [parseW, if_neg]
  rintro ⟨-, -, -, h1, h2, -⟩
  rcases h with h | h
  · exact h1 h
  · exact h2 h
theorem parseZ {k so se a b st un : Wd} {t : List Wd} (ha : a ≠ []) (hb : b ≠ []) {p : PZ} (hp : pzPart t = p) {y : WZ} (hy : wzWay p.rest = y) :
    parseW (k :: so :: se :: a :: b :: st :: un :: t) = if okZ ⟨kindW k, vZ so, vZ se, a, nob b, vZ st, vZ un⟩ p y = true then some (lnZ ⟨kindW k, vZ so, vZ se, a, nob b, vZ st, vZ un⟩ p y) else none := by
  subst hp hy
  rw [parseW]
  by_cases h0 : kindW k ≠ 0 ∧ numW so = true ∧ numW se = true ∧ a ≠ [] ∧ b ≠ [] ∧ numW st = true ∧ numW un = true
  · rw [if_pos h0]
    obtain ⟨c1, c2, c3, c4, c5, c6, c7⟩ := h0
    rw [tailZ _ ⟨rfl, rfl⟩ ⟨rfl, rfl, rfl⟩]
    by_cases h1 : 0 ≤ (pzPart t).cl ∧ 0 ≤ (pzPart t).pt
    · rw [if_pos h1, wayZ _ ⟨rfl, rfl⟩]
      by_cases h2 : 0 ≤ (wzWay (pzPart t).rest).tr ∧ (wzWay (pzPart t).rest).rest = []
      · rw [if_pos h2, if_pos]
        · simp [lnZ, vZ, c2, c3, c6, c7]
        · simp [okZ, vZ, c2, c3, c6, c7, h2.2]; omega
      · rw [if_neg h2, if_neg]
        intro h3
        simp [okZ] at h3
        exact h2 ⟨by omega, h3.1.1⟩
    · rw [if_neg h1, if_neg]
      intro h3
      simp [okZ] at h3
      exact h1 ⟨by omega, by omega⟩
  · rw [if_neg h0, if_neg]
    intro h3
    simp [okZ] at h3
    obtain ⟨⟨-, h4⟩, h5⟩ := h3
    refine h0 ⟨by omega, vZ_pos.1 (by omega), vZ_pos.1 (by omega), ha, hb, vZ_pos.1 (by omega), vZ_pos.1 (by omega)⟩
end Go.Proofs.YtokdfdinnaghmaaDoor.Tx
