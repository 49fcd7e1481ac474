/- What holds of the operands of a valid expression. -/
import Derived.Test.YtolgfkkjbefecaaCkL2
import Derived.Test.YtolgfkkjbefecaaApAny
import Derived.Test.YtolgfkkjbefecaaCkD
namespace Go.Proofs.Ytolgfkkjbefecaa.Ck
open Go Go.Lib Go.RowKit Go.Proofs.Ytolgfkkjbefecaa Go.Maps

theorem sorts_in {f : Ex → Int × Int} : ∀ {l : List Ex}, (sorts f l).2 = 0 → ∀ e ∈ l, (f e).2 = 0
  | [], _, e, he => by cases he
  | x :: t, h, e, he => by
    rw [sorts] at h
    by_cases h0 : (f x).2 = 0
    · rw [if_pos h0] at h
      rcases List.mem_cons.1 he with rfl | he
      · exact h0
      · exact sorts_in h e he
    · rw [if_neg h0] at h; exact absurd h h0
theorem sorts_get {f : Ex → Int × Int} : ∀ {l : List Ex}, (sorts f l).2 = 0 → ∀ (i : Nat) (e : Ex), l[i]? = some e → (sorts f l).1[i]? = some (f e).1
  | [], _, i, e, he => by simp at he
  | x :: t, h, i, e, he => by
    rw [sorts] at h ⊢
    by_cases h0 : (f x).2 = 0
    · rw [if_pos h0] at h ⊢
      cases i with
      | zero => have : x = e := by simpa using he
                rw [this]; rfl
      | succ i => exact sorts_get h i e (by simpa using he)
    · rw [if_neg h0] at h; exact absurd h h0
theorem sorts_congr {f g : Ex → Int × Int} : ∀ {l : List Ex}, (∀ e ∈ l, f e = g e) → sorts f l = sorts g l
  | [], _ => rfl
  | x :: t, h => by
    rw [sorts, sorts, h x (by simp), sorts_congr (fun e he => h e (List.mem_cons_of_mem _ he))]
theorem sortX_none : ∀ {k : Nat} {e : Ex}, (sortX k e).2 ≠ 0 → (sortX k e).1 = 0
  | 0, _, _ => rfl
  | k + 1, .mk op num tx args, h => by
    unfold sortX at h ⊢
    by_cases h0 : ownE op num tx args.length = 0
    · rw [if_pos h0] at h ⊢
      by_cases h1 : (sorts (sortX k) args).2 = 0
      · rw [if_pos h1] at h ⊢
        unfold finE at h ⊢
        split
        · rfl
        · rename_i h2; rw [if_neg h2] at h; exact absurd rfl h
      · rw [if_neg h1]
    · rw [if_neg h0]
/-- What is valid is so with more levels left. -/
theorem sortX_more : ∀ {k : Nat} {e : Ex}, (sortX k e).2 = 0 → sortX (k + 1) e = sortX k e
  | 0, _, h => absurd h (by unfold sortX; decide)
  | k + 1, .mk op num tx args, h => by
    have h' := h
    rw [sortX] at h
    by_cases h0 : ownE op num tx args.length = 0
    · rw [if_pos h0] at h
      by_cases h1 : (sorts (sortX k) args).2 = 0
      · have hc : sorts (sortX (k + 1)) args = sorts (sortX k) args := sorts_congr (fun e he => sortX_more (sorts_in h1 e he))
        rw [sortX_fin h0 (by rw [hc]; exact h1), sortX_fin h0 h1, hc]
      · rw [if_neg h1] at h; exact absurd h h1
    · rw [if_neg h0] at h; exact absurd h h0
theorem sorts_deep {f g : Ex → Int × Int} : ∀ {l : List Ex}, (∀ e ∈ l, f e = g e ∨ f e = (0, 24)) → sorts f l = sorts g l ∨ (sorts f l).2 = 24
  | [], _ => .inl rfl
  | x :: t, h => by
    rcases h x (by simp) with h1 | h1
    · rcases sorts_deep (l := t) (fun e he => h e (List.mem_cons_of_mem _ he)) with h2 | h2
      · left; rw [sorts, sorts, h1, h2]
      · by_cases h0 : (f x).2 = 0
        · right; rw [sorts, if_pos h0]; exact h2
        · left; rw [sorts, sorts, h1, if_neg (by rw [← h1]; exact h0), if_neg (by rw [← h1]; exact h0)]
    · right; rw [sorts, h1, if_neg (by decide)]
/-- With a level less it is the same, or too deep. -/
theorem sortX_less : ∀ {k : Nat} {e : Ex}, (sortX (k + 1) e).2 = 0 → sortX k e = sortX (k + 1) e ∨ sortX k e = (0, 24)
  | 0, _, _ => .inr rfl
  | k + 1, .mk op num tx args, h => by
    have h' := h
    rw [sortX] at h
    by_cases h0 : ownE op num tx args.length = 0
    · rw [if_pos h0] at h
      by_cases h1 : (sorts (sortX (k + 1)) args).2 = 0
      · rcases sorts_deep (l := args) (f := sortX k) (g := sortX (k + 1)) (fun e he => sortX_less (sorts_in h1 e he)) with h2 | h2
        · left; rw [sortX_fin h0 (by rw [h2]; exact h1), sortX_fin h0 h1, h2]
        · right; rw [sortX_args h0 (by rw [h2]; decide), h2]
      · rw [if_neg h1] at h; exact absurd h h1
    · rw [if_neg h0] at h; exact absurd h h0
/-- What the operands of a valid expression are. -/
theorem opnd {op num : Int} {tx : ByteArray} {args : List Ex} (h : (sortX 16 (.mk op num tx args)).2 = 0) {i : Nat} {e : Ex} (he : args[i]? = some e) : ∃ t, sortX 16 e = (t, 0) ∧ (11 ≤ op → t = 1) ∧ (op ≤ 6 → t = 3) := by
  have h' := h
  rw [show (16 : Nat) = 15 + 1 from rfl, sortX] at h
  by_cases h0 : ownE op num tx args.length = 0
  · rw [if_pos h0] at h
    by_cases h1 : (sorts (sortX 15) args).2 = 0
    · rw [if_pos h1] at h
      have hv := sorts_in h1 e (List.mem_of_getElem? he)
      have hm := sortX_more hv
      refine ⟨(sortX 15 e).1, by rw [show (16 : Nat) = 15 + 1 from rfl, hm, ← hv], ?_, ?_⟩
      all_goals
        have hg := sorts_get h1 i e he
        have hl := sorts_len h1
        have hsm : ∀ s ∈ (sorts (sortX 15) args).1, isSort s := sorts_mem (fun e _ he => sortX_sort he)
        obtain ⟨ss, hss⟩ : ∃ ss, (sorts (sortX 15) args).1 = ss := ⟨_, rfl⟩
        rw [hss] at h hg hl hsm
        intro hop
        rcases len_cases (l := ss) (op := op) (by rw [hl]; exact own_len h0) with ⟨q1, q2, rfl⟩ | ⟨rfl, a, rfl⟩ | ⟨q1, q2, a, b, rfl⟩
        · simp at hg
        · first
            | omega
            | (have hi : i = 0 := by
                 rcases Nat.eq_zero_or_pos i with h | h
                 · exact h
                 · rw [List.getElem?_eq_none (by simp; omega)] at hg; cases hg
               subst hi
               have ha : a = (sortX 15 e).1 := by simpa using hg
               rw [← ha]
               rcases hsm a (by simp) with rfl | rfl | rfl
               · exact absurd h (by unfold finE resE; simp)
               · exact absurd h (by unfold finE resE; simp)
               · rfl)
        · have hi : i = 0 ∨ i = 1 := by
            rcases Nat.lt_or_ge i 2 with h | h
            · omega
            · rw [List.getElem?_eq_none (by simpa using h)] at hg; cases hg
          have hab : (sortX 15 e).1 = a ∨ (sortX 15 e).1 = b := by
            rcases hi with rfl | rfl
            · left; simpa using hg.symm
            · right; simpa using hg.symm
          have hops : op = 5 ∨ op = 6 ∨ op = 7 ∨ op = 8 ∨ op = 9 ∨ op = 10 ∨ op = 11 ∨ op = 12 ∨ op = 13 ∨ op = 14 ∨ op = 15 := by omega
          have key : ∀ o a b : Int, (o = 5 ∨ o = 6 ∨ o = 11 ∨ o = 12 ∨ o = 13 ∨ o = 14 ∨ o = 15) → isSort a → isSort b → (finE o tx [a, b]).2 = 0 → (11 ≤ o → a = 1 ∧ b = 1) ∧ (o ≤ 6 → a = 3 ∧ b = 3) := by
            intro o a b ho ha hb hf
            rcases ho with rfl | rfl | rfl | rfl | rfl | rfl | rfl <;> rcases ha with rfl | rfl | rfl <;> rcases hb with rfl | rfl | rfl <;> first | (constructor <;> intro h <;> first | (exact ⟨rfl, rfl⟩) | (exact absurd h (by decide))) | (exact absurd hf (by unfold finE resE; simp))
          have hk := key op a b (by omega) (hsm a (by simp)) (hsm b (by simp)) h
          first
            | (rcases hab with e | e <;> rw [e]
               · exact (hk.1 hop).1
               · exact (hk.1 hop).2)
            | (rcases hab with e | e <;> rw [e]
               · exact (hk.2 hop).1
               · exact (hk.2 hop).2)
    · rw [if_neg h1] at h; exact absurd h h1
  · rw [if_neg h0] at h; exact absurd h h0
/-- One more operand. -/
theorem more_own {op num : Int} {tx : ByteArray} {n : Nat} (h : ownE op num tx n = 0) : ownE op num tx (n + 1) = 7 := by
  unfold ownE
  rw [if_pos]
  have := own_len h
  omega
/-- A not around it. -/
theorem not_out {e : Ex} {s : Int} (h : sortX 16 e = (s, 0)) : sortX 16 (.mk 4 0 ⟨#[]⟩ [e]) = (if s = 3 then (3, 0) else (0, 7)) ∨ sortX 16 (.mk 4 0 ⟨#[]⟩ [e]) = (0, 24) := by
  have ho : ownE 4 0 ⟨#[]⟩ [e].length = 0 := rfl
  rcases sortX_less (k := 15) (e := e) (by rw [h]) with h1 | h1
  · left
    have h2 : sortX 15 e = (s, 0) := h1.trans h
    have h3 : sorts (sortX 15) [e] = ([s], 0) := by rw [sorts, h2]; rfl
    rw [show (16 : Nat) = 15 + 1 from rfl, sortX_fin ho (by rw [h3]), h3]
    have hs : isSort s := by have := sortX_sort (k := 16) (e := e) (by rw [h]); rw [h] at this; exact this
    rcases hs with rfl | rfl | rfl <;> rfl
  · right
    have h3 : sorts (sortX 15) [e] = ([], 24) := by rw [sorts, h1]; rfl
    rw [show (16 : Nat) = 15 + 1 from rfl, sortX_args ho (by rw [h3]; decide), h3]
theorem XA.isNil {w : World} {d : Nat} {A : Option Addr} {args : List Ex} (h : XA w d A args) (hA : A = none) : args.length = 0 := by
  rcases Nat.eq_zero_or_pos args.length with h0 | h0
  · exact h0
  · obtain ⟨b, off, _, _, _, _, _, _, h1, _⟩ := h.at h0
    rw [hA] at h1; cases h1
/-- The cells of a slice of expressions. -/
theorem XA.src {w : World} {d : Nat} {A : Option Addr} {args : List Ex} (h : XA w d A args) : ∃ news : List Value, news.length = args.length * 4 ∧ (∀ ad, A = some ad → ∀ j u, news[j]? = some u → w.cell? (ad.add j) = some u) ∧ ∀ u ∈ news, u.oneCell' = true := by
  rcases Nat.eq_zero_or_pos args.length with h0 | h0
  · exact ⟨[], by rw [h0]; rfl, fun _ _ j u hj => by simp at hj, fun u hu => by cases hu⟩
  · obtain ⟨b, off, _, _, _, _, _, _, hA, _⟩ := h.at h0
    have hc : ∀ j, j < args.length * 4 → ∃ v : Value, w.cell? ⟨b, off + j, none⟩ = some v ∧ v.oneCell' = true := by
      intro j hj
      obtain ⟨b', off', o, n, t, us, A', c', e1, _, _, g0, g1, g2, g3, _⟩ := h.at (i := j / 4) (by omega)
      rw [hA] at e1
      cases e1
      have hr : j % 4 = 0 ∨ j % 4 = 1 ∨ j % 4 = 2 ∨ j % 4 = 3 := by omega
      rcases hr with hr | hr | hr | hr
      · exact ⟨_, by rw [← g0, show off + j / 4 * 4 = off + j by omega], rfl⟩
      · exact ⟨_, by rw [← g1, show off + j / 4 * 4 + 1 = off + j by omega], rfl⟩
      · exact ⟨_, by rw [← g2, show off + j / 4 * 4 + 2 = off + j by omega], rfl⟩
      · exact ⟨_, by rw [← g3, show off + j / 4 * 4 + 3 = off + j by omega], rfl⟩
    refine ⟨(List.range (args.length * 4)).map fun j => (w.cell? ⟨b, off + j, none⟩).getD (.int .i64 0), by simp, fun ad ha j u hj => ?_, fun u hu => ?_⟩
    · rw [hA] at ha
      cases ha
      rw [List.getElem?_map] at hj
      have hlt : j < args.length * 4 := by
        rcases Nat.lt_or_ge j (args.length * 4) with h | h
        · exact h
        · rw [List.getElem?_eq_none (by simpa using h)] at hj; cases hj
      rw [List.getElem?_range hlt] at hj
      obtain ⟨v, hv, _⟩ := hc j hlt
      rw [add_none, hv]
      rw [Option.map_some, hv] at hj
      exact hj
    · obtain ⟨j, hj, rfl⟩ := List.mem_map.1 hu
      obtain ⟨v, hv, h1⟩ := hc j (by simpa using hj)
      simp only [hv]
      exact h1
end Go.Proofs.Ytolgfkkjbefecaa.Ck
