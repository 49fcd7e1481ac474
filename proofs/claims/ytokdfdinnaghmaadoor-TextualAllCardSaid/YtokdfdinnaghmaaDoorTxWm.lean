/- Plain facts: the words of a record, read back. -/
import Derived.Test.YtokdfdinnaghmaaDoorTxP
namespace Go.Proofs.YtokdfdinnaghmaaDoor.Tx
open Go Go.Lib

def letK (k : Nat) : Wd := if k = 1 then [118] else if k = 2 then [116] else if k = 3 then [100] else [99]
def bWord (b : Wd) : Wd := if b = [] then [45] else b
def partWs (n : Ln) : List Wd := if n.pt = 0 then [] else [wPart, decDigits n.cl, decDigits n.pt] ++ (if n.la = true then [wLast] else [])
def trunkWs (n : Ln) : List Wd := if n.tr = 0 then [] else [if n.inb = true then wIn else wOut, decDigits n.tr]
/-- The words of a record's line. -/
def wordsL (n : Ln) : List Wd := [letK n.kd, decDigits n.so, decDigits n.se, n.a, bWord n.b, decDigits n.st, decDigits n.un] ++ partWs n ++ trunkWs n
/-- What a line can say. -/
structure LnOk (n : Ln) : Prop where
  kd0 : 1 ≤ n.kd
  kd1 : n.kd ≤ 4
  so : n.so < 1000000000000000
  se : n.se < 1000000000000000
  st : n.st < 1000000000000000
  un : n.un < 1000000000000000
  cl : n.cl < 1000000000000000
  pt : n.pt < 1000000000000000
  tr : n.tr < 1000000000000000
  a : n.a ≠ []
  b : n.b ≠ [45]
  p0 : n.pt = 0 → n.cl = 0 ∧ n.la = false
  t0 : n.tr = 0 → n.inb = false
  al : n.a.length ≤ 100
  bl : n.b.length ≤ 100
theorem kindW_let {k : Nat} (h0 : 1 ≤ k) (h1 : k ≤ 4) : kindW (letK k) = k := by
  obtain rfl | rfl | rfl | rfl : k = 1 ∨ k = 2 ∨ k = 3 ∨ k = 4 := by omega
  all_goals decide
theorem nob_word {b : Wd} (h : b ≠ [45]) : nob (bWord b) = b := by
  unfold nob bWord
  by_cases hb : b = []
  · rw [if_pos hb, if_pos rfl, hb]
  · rw [if_neg hb, if_neg h]
theorem bWord_ne (b : Wd) : bWord b ≠ [] := by
  unfold bWord
  by_cases hb : b = []
  · rw [if_pos hb]; decide
  · rw [if_neg hb]; exact hb
theorem wayW_words {r n : Ln} (h : LnOk n) (hr : { r with tr := n.tr, inb := n.inb } = n) (h0 : r.tr = 0 ∧ r.inb = false) : wayW r (trunkWs n) = some n := by
  unfold trunkWs
  by_cases ht : n.tr = 0
  · rw [if_pos ht]
    have := h.t0 ht
    show some r = some n
    congr 1
    rw [← hr]
    cases r
    simp only at h0
    obtain ⟨rfl, rfl⟩ := h0
    simp [ht, this]
  · rw [if_neg ht]
    have hv := valW_dec n.tr
    have hw := numW_dec h.tr
    cases hi : n.inb
    · have hne : wOut ≠ wIn := by decide
      simp only [wayW, hw, hv]
      congr 1
      rw [← hr, hi]
      cases r
      simp only at h0
      obtain ⟨rfl, rfl⟩ := h0
      rfl
    · simp only [wayW, hw, hv, if_true, and_self]
      congr 1
      rw [← hr, hi]
theorem trunk_head (n : Ln) : (trunkWs n).head? ≠ some wLast ∧ (trunkWs n).head? ≠ some wPart := by
  unfold trunkWs
  by_cases ht : n.tr = 0
  · rw [if_pos ht]; exact ⟨by simp, by simp⟩
  · rw [if_neg ht]
    cases n.inb <;> exact ⟨by simp [wIn, wOut, wLast], by simp [wIn, wOut, wPart]⟩
theorem lastW_way {r : Ln} {t : List Wd} (h : t.head? ≠ some wLast) : lastW r t = wayW r t := by
  cases t with
  | nil => rfl
  | cons l t => rw [lastW, if_neg (fun e => h (by rw [e]; rfl))]
theorem tailW_way {r : Ln} {t : List Wd} (h : t.head? ≠ some wPart) : tailW r t = wayW r t := by
  match t, h with
  | [], _ => rfl
  | [_], _ => rfl
  | [_, _], _ => rfl
  | p :: c :: n :: t, h => rw [tailW, if_neg (fun e => h (by rw [e]; rfl))]
theorem parse_words {n : Ln} (h : LnOk n) : parseW (wordsL n) = some n := by
  have e : parseW (wordsL n) = tailW ⟨n.kd, n.so, n.se, n.a, n.b, n.st, n.un, 0, 0, false, 0, false⟩ (partWs n ++ trunkWs n) := by
    unfold wordsL
    simp only [List.cons_append, List.nil_append, parseW]
    rw [if_pos ⟨by rw [kindW_let h.kd0 h.kd1]; have := h.kd0; omega, numW_dec h.so, numW_dec h.se, h.a, bWord_ne _, numW_dec h.st, numW_dec h.un⟩]
    rw [kindW_let h.kd0 h.kd1, nob_word h.b, valW_dec, valW_dec, valW_dec, valW_dec]
  rw [e]
  unfold partWs
  by_cases hp : n.pt = 0
  · rw [if_pos hp, List.nil_append, tailW_way (trunk_head n).2]
    obtain ⟨h1, h2⟩ := h.p0 hp
    refine wayW_words h ?_ ⟨rfl, rfl⟩
    cases n
    simp only at hp h1 h2 ⊢
    rw [hp, h1, h2]
  · rw [if_neg hp]
    have e2 : ∀ t, tailW ⟨n.kd, n.so, n.se, n.a, n.b, n.st, n.un, 0, 0, false, 0, false⟩ ([wPart, decDigits n.cl, decDigits n.pt] ++ t) = lastW ⟨n.kd, n.so, n.se, n.a, n.b, n.st, n.un, n.cl, n.pt, false, 0, false⟩ t := by
      intro t
      simp only [List.cons_append, List.nil_append, tailW]
      rw [if_pos trivial, if_pos ⟨numW_dec h.cl, numW_dec h.pt⟩, valW_dec, valW_dec]
    rw [List.append_assoc, e2]
    cases hl : n.la
    · rw [if_neg (by decide), List.nil_append, lastW_way (trunk_head n).1]
      refine wayW_words h ?_ ⟨rfl, rfl⟩
      cases n
      simp only at hl ⊢
      rw [hl]
    · rw [if_pos rfl, List.cons_append, List.nil_append, lastW, if_pos rfl]
      refine wayW_words h ?_ ⟨rfl, rfl⟩
      cases n
      simp only at hl ⊢
      rw [hl]
end Go.Proofs.YtokdfdinnaghmaaDoor.Tx
