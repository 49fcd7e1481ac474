/- Plain facts: places of tokens and of errors. -/
import Derived.Test.YtkdimbpmgngajaaDoorLxAw
import Derived.Test.YtkdimbpmgngajaaDoorLxJ
namespace Go.Proofs.YtkdimbpmgngajaaDoor.Lx
open Go Go.Lib Go.RowKit Go.Proofs.YtkdimbpmgngajaaDoor Go.Maps

theorem TkB.set2 {w : World} {g : Nat} {k n p : Int} {x : ByteArray} (h : TkB w g k n p x) (p' : Int) : TkB (w.setCell ⟨g, 2, none⟩ (.int .i64 p')) g k n p' x := by
  unfold TkB at h ⊢; simp [World.setCell, Array.getElem?_modify, h]
theorem below_drewN {B : Nat} {a w : World} (h : Below B a w) (n : Nat) : Below B a (w.drewN n) := ⟨h.os, h.tape, h.output, h.size, h.block⟩
theorem qut_err {x r : Wd} {e : Nat} (h : qut x r = .error e) : 1 ≤ e := by
  unfold qut at h
  split at h
  · injection h with h; omega
  · split at h
    · split at h
      · injection h with h; omega
      · cases h
    · injection h with h; omega
theorem tok_err {s : Wd} {e : Nat} (h : tok s = .error e) : 1 ≤ e := by
  match s, h with
  | [], h => injection h with h; omega
  | b :: t, h =>
    rw [tok] at h
    split at h
    · split at h
      · injection h with h; omega
      · cases h
    · split at h
      · split at h
        · injection h with h; omega
        · split at h
          · injection h with h; omega
          · cases h
      · split at h
        · exact qut_err h
        · split at h
          · cases h
          · injection h with h; omega
/-- Where an error lies, and which places tokens have. -/
theorem scn_places : ∀ (n : Nat) (r : Wd), r.length ≤ n → match scn r with
    | .error (m, e) => m ≤ r.length ∧ 1 ≤ e
    | .ok D => (∀ t ∈ D, t.rem ≤ r.length) ∧ 0 < D.length ∧ D.length ≤ r.length + 1
  | n, r, hn => by
    have hl := skp_le false r
    cases hs : skp false r with
    | nil =>
      rw [scn_end hs]
      exact ⟨fun t ht => by rw [List.mem_singleton.1 ht]; exact Nat.zero_le _, by simp, by simp⟩
    | cons b u =>
      rw [hs] at hl
      cases hx : tok (b :: u) with
      | error e =>
        rw [scn_err hs (by simp) hx]
        exact ⟨hl, tok_err hx⟩
      | ok y =>
        obtain ⟨k, x, r2⟩ := y
        have hlt := tok_lt hx
        match n, hn with
        | 0, hn => simp at hl; omega
        | n + 1, hn =>
          have ih := scn_places n r2 (by simp at hl hlt; omega)
          rw [scn_tok hs hx]
          cases hr : scn r2 with
          | error e =>
            obtain ⟨m, e⟩ := e
            rw [hr] at ih
            simp only [put] at ih ⊢
            exact ⟨by simp at hl hlt; omega, ih.2⟩
          | ok l =>
            rw [hr] at ih
            simp only [put] at ih ⊢
            refine ⟨fun t ht => ?_, by simp, by have := ih.2.2; simp at hl hlt ⊢; omega⟩
            rcases List.mem_cons.1 ht with rfl | ht
            · exact hl
            · have := ih.1 t ht; simp at hl hlt; omega
theorem scn_err_at {r : Wd} {m e : Nat} (h : scn r = .error (m, e)) : m ≤ r.length ∧ 1 ≤ e := by
  have := scn_places _ r (Nat.le_refl _); rw [h] at this; exact this
theorem scn_ok_at {r : Wd} {D : List Tk} (h : scn r = .ok D) : (∀ t ∈ D, t.rem ≤ r.length) ∧ 0 < D.length ∧ D.length ≤ r.length + 1 := by
  have := scn_places _ r (Nat.le_refl _); rw [h] at this; exact this
theorem scnP_small {r : Wd} (h : r.length ≤ 65536) : scnP r = scn r := by unfold scnP; rw [if_neg (by omega)]
/-- Both texts have tokens. -/
theorem join_ok {s t : Wd} {D E : List Tk} (h : scn s = .ok D) (k : scn t = .ok E) : scn (s ++ 10 :: t) = .ok (D.dropLast.map (shf (t.length + 1)) ++ E) := by
  have h1 := scn_nl t _ s (Nat.le_refl _)
  rw [h] at h1
  obtain ⟨A, rfl, h2⟩ := h1
  rw [h2, k, List.dropLast_concat]; rfl
theorem join_err1 {s t : Wd} {m e : Nat} (h : scn s = .error (m, e)) : scn (s ++ 10 :: t) = .error (m + (t.length + 1), e) := by
  have h1 := scn_nl t _ s (Nat.le_refl _)
  rw [h] at h1; exact h1
theorem join_err2 {s t : Wd} {D : List Tk} {m e : Nat} (h : scn s = .ok D) (k : scn t = .error (m, e)) : scn (s ++ 10 :: t) = .error (m, e) := by
  have h1 := scn_nl t _ s (Nat.le_refl _)
  rw [h] at h1
  obtain ⟨A, rfl, h2⟩ := h1
  rw [h2, k]; rfl
theorem getD_lo {D E : List Tk} {n i : Nat} (h : i < D.length - 1) : (D.dropLast.map (shf n) ++ E).getD i tk0 = shf n (D.getD i tk0) := by
  have h1 : i < D.dropLast.length := by rw [List.length_dropLast]; exact h
  rw [List.getD_eq_getElem?_getD, List.getElem?_append_left (by rw [List.length_map]; exact h1), List.getElem?_map, List.getElem?_eq_getElem h1, List.getD_eq_getElem?_getD, List.getElem?_eq_getElem (by omega), List.getElem_dropLast]; rfl
theorem getD_hi {D E : List Tk} {n i : Nat} (h : D.length - 1 ≤ i) : (D.dropLast.map (shf n) ++ E).getD i tk0 = E.getD (i - (D.length - 1)) tk0 := by
  rw [List.getD_eq_getElem?_getD, List.getElem?_append_right (by rw [List.length_map, List.length_dropLast]; exact h), List.length_map, List.length_dropLast, List.getD_eq_getElem?_getD]
theorem getD_memT {D : List Tk} {i : Nat} (h : i < D.length) : D.getD i tk0 ∈ D := by
  rw [List.getD_eq_getElem?_getD, List.getElem?_eq_getElem h]; exact List.getElem_mem _
end Go.Proofs.YtkdimbpmgngajaaDoor.Lx
