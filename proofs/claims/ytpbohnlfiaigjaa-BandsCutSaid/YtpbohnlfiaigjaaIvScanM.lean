/- Plain mathematics: the scan of sorted limits gives the canonical list of a set. -/
import Derived.Test.YtpbohnlfiaigjaaIvM
namespace Go.Proofs.Ytpbohnlfiaigjaa

/-- An edge: its instant, its list, its change. -/
abbrev Eg := Int × Int × Int
/-- How many elements of list j contain t, by the edges. -/
def dep (E : List Eg) (j t : Int) : Int := (E.map fun e => if e.1 ≤ t ∧ e.2.1 = j then e.2.2 else 0).sum
theorem dep_nil (j t : Int) : dep [] j t = 0 := rfl
theorem dep_cons (e : Eg) (E : List Eg) (j t : Int) : dep (e :: E) j t = (if e.1 ≤ t ∧ e.2.1 = j then e.2.2 else 0) + dep E j t := by simp [dep]
theorem dep_append (E F : List Eg) (j t : Int) : dep (E ++ F) j t = dep E j t + dep F j t := by simp [dep, List.sum_append]
theorem dep_perm {E F : List Eg} (h : E.Perm F) (j t : Int) : dep E j t = dep F j t := by
  induction h with
  | nil => rfl
  | cons x _ ih => rw [dep_cons, dep_cons, ih]
  | swap x y l => rw [dep_cons, dep_cons, dep_cons, dep_cons]; omega
  | trans _ _ i1 i2 => rw [i1, i2]
/-- The edges of a list's valid elements. -/
def egs (j : Int) (l : List Pd) : List Eg := (l.filter vl).flatMap fun p => [(p.1, j, 1), (p.2, j, -1)]
theorem egs_nil (j : Int) : egs j [] = [] := rfl
theorem egs_cons (j : Int) (p : Pd) (l : List Pd) : egs j (p :: l) = (if vl p then [(p.1, j, 1), (p.2, j, -1)] else []) ++ egs j l := by
  unfold egs
  cases h : vl p <;> simp [h]
theorem egs_snoc (j : Int) (p : Pd) (l : List Pd) : egs j (l ++ [p]) = egs j l ++ (if vl p then [(p.1, j, 1), (p.2, j, -1)] else []) := by
  unfold egs
  cases h : vl p <;> simp [List.filter_append, h]
theorem egs_length (j : Int) (l : List Pd) : (egs j l).length ≤ 2 * l.length := by
  induction l with
  | nil => simp [egs_nil]
  | cons p l ih => rw [egs_cons]; cases vl p <;> simp <;> omega
theorem egs_in {j : Int} {l : List Pd} {e : Eg} (h : e ∈ egs j l) : 0 ≤ e.1 ∧ e.1 ≤ 12622780800 ∧ e.2.1 = j ∧ (e.2.2 = 1 ∨ e.2.2 = -1) := by
  unfold egs at h
  rw [List.mem_flatMap] at h
  obtain ⟨p, hp, he⟩ := h
  rw [List.mem_filter] at hp
  have := vl_iff.1 hp.2
  simp at he
  rcases he with rfl | rfl <;> simp <;> omega
theorem dep_egs (j t : Int) (l : List Pd) : 0 ≤ dep (egs j l) j t ∧ decide (0 < dep (egs j l) j t) = mem l t := by
  induction l with
  | nil => exact ⟨Int.le_refl 0, rfl⟩
  | cons p l ih =>
    obtain ⟨h0, h1⟩ := ih
    rw [egs_cons, dep_append, mem_cons, ← h1]
    cases hv : vl p
    · have : ctn p t = false := by unfold ctn; rw [hv]; rfl
      rw [this]
      simp [dep_nil, h0]
    · have hp := vl_iff.1 hv
      rw [if_pos rfl, dep_cons, dep_cons, dep_nil]
      by_cases h2 : p.1 ≤ t
      · by_cases h3 : p.2 ≤ t
        · have : ctn p t = false := by unfold ctn; rw [hv]; simp; omega
          rw [this, if_pos ⟨h2, rfl⟩, if_pos ⟨h3, rfl⟩]
          simp [h0]
        · have : ctn p t = true := ctn_iff.2 ⟨hv, h2, by omega⟩
          rw [this, if_pos ⟨h2, rfl⟩, if_neg (fun h => h3 h.1)]
          simp; omega
      · have : ctn p t = false := by unfold ctn; rw [hv]; simp; omega
        rw [this, if_neg (fun h => h2 h.1), if_neg (fun h => by have := h.1; simp at this; omega)]
        simp [h0]
theorem dep_other {i j t : Int} (h : i ≠ j) (l : List Pd) : dep (egs i l) j t = 0 := by
  induction l with
  | nil => rfl
  | cons p l ih =>
    rw [egs_cons, dep_append, ih]
    cases vl p <;> simp [dep_cons, dep_nil, h]
/-- All the changes of a list. -/
def chg (E : List Eg) (j : Int) : Int := (E.map fun e => if e.2.1 = j then e.2.2 else 0).sum
theorem chg_nil (j : Int) : chg [] j = 0 := rfl
theorem chg_snoc (E : List Eg) (e : Eg) (j : Int) : chg (E ++ [e]) j = chg E j + (if e.2.1 = j then e.2.2 else 0) := by simp [chg, List.sum_append]
theorem dep_low {E : List Eg} {t : Int} (h : ∀ e ∈ E, e.1 ≤ t) (j : Int) : dep E j t = chg E j := by
  unfold dep chg
  congr 1
  refine List.map_congr_left fun e he => ?_
  have := h e he
  by_cases h2 : e.2.1 = j
  · rw [if_pos ⟨this, h2⟩, if_pos h2]
  · rw [if_neg (fun h => h2 h.2), if_neg h2]
theorem dep_high {E : List Eg} {t : Int} (h : ∀ e ∈ E, t < e.1) (j : Int) : dep E j t = 0 := by
  induction E with
  | nil => rfl
  | cons e E ih =>
    rw [dep_cons, ih fun x hx => h x (by simp [hx]), if_neg]
    · omega
    · have := h e (by simp); omega
theorem chg_egs {i j : Int} (l : List Pd) : chg (egs i l) j = 0 := by
  have h := dep_low (E := egs i l) (t := 12622780800) (fun e he => by have := egs_in he; omega) j
  rw [← h]
  by_cases hij : i = j
  · subst hij
    have := dep_egs i 12622780800 l
    have hm : mem l 12622780800 = false := by
      cases e : mem l 12622780800
      · rfl
      · obtain ⟨p, _, hc⟩ := mem_iff.1 e
        obtain ⟨hv, _, _⟩ := ctn_iff.1 hc
        have := vl_iff.1 hv
        omega
    rw [hm] at this
    have h2 := of_decide_eq_false this.2
    omega
  · exact dep_other hij l
theorem chg_append (E F : List Eg) (j : Int) : chg (E ++ F) j = chg E j + chg F j := by simp [chg, List.sum_append]
theorem chg_perm {E F : List Eg} (h : E.Perm F) (j : Int) : chg E j = chg F j := by
  induction h with
  | nil => rfl
  | cons x _ ih => simp [chg] at ih ⊢; omega
  | swap x y l => simp [chg]; omega
  | trans _ _ i1 i2 => rw [i1, i2]

/-- The scan's state: what is open of each list, the begin, inside, the result. -/
structure Sc where
  oa : Int
  ob : Int
  fr : Int
  ins : Bool
  out : List Pd
/-- One edge of the scan; nx: the next edge is at the same instant. -/
def stp (f : Bool → Bool → Bool) (s : Sc) (e : Eg) (nx : Bool) : Sc :=
  let oa := if e.2.1 = 0 then s.oa + e.2.2 else s.oa
  let ob := if e.2.1 = 1 then s.ob + e.2.2 else s.ob
  if nx then { s with oa := oa, ob := ob }
  else
    let i := f (decide (0 < oa)) (decide (0 < ob))
    if i && !s.ins then ⟨oa, ob, e.1, i, s.out⟩
    else if !i && s.ins then ⟨oa, ob, s.fr, i, s.out ++ [(s.fr, e.1)]⟩
    else ⟨oa, ob, s.fr, i, s.out⟩
/-- Is the first edge at t? -/
def at1 (t : Int) : List Eg → Bool
  | [] => false
  | e :: _ => decide (e.1 = t)
/-- The scan. -/
def scn (f : Bool → Bool → Bool) (s : Sc) : List Eg → Sc
  | [] => s
  | e :: r => scn f (stp f s e (at1 e.1 r)) r
/-- What has been found so far. -/
structure Inv (f : Bool → Bool → Bool) (M : Int → Bool) (E : List Eg) (pre : List Eg) (s : Sc) (h : Int → Prop) : Prop where
  a : s.oa = chg pre 0
  b : s.ob = chg pre 1
  can : can s.out
  cov : ∀ t, h t → (mem s.out t || (s.ins && decide (s.fr ≤ t))) = M t
  fr : s.ins = true → 0 ≤ s.fr ∧ (∀ q ∈ s.out, q.2 < s.fr) ∧ h s.fr
  top : ∀ q ∈ s.out, h q.2
/-- Sorted by the instants. -/
def srt (E : List Eg) : Prop := E.Pairwise fun x y => x.1 ≤ y.1
theorem scn_inv {f : Bool → Bool → Bool} (hf : f false false = false) {M : Int → Bool} {E : List Eg} (hs : srt E) (hr : ∀ e ∈ E, 0 ≤ e.1 ∧ e.1 ≤ 12622780800)
    (hM : ∀ t, M t = f (decide (0 < dep E 0 t)) (decide (0 < dep E 1 t))) (h0 : chg E 0 = 0) (h1 : chg E 1 = 0) :
    ∀ (suf pre : List Eg) (s : Sc), E = pre ++ suf → Inv f M E pre s (fun t => ∀ e ∈ suf.head?, t < e.1) → (suf = [] → s.ins = false) →
      can (scn f s suf).out ∧ ∀ t, mem (scn f s suf).out t = M t := by
  intro suf
  induction suf with
  | nil =>
    intro pre s hE hi hn
    refine ⟨hi.can, fun t => ?_⟩
    have := hi.cov t (by simp)
    rw [hn rfl, Bool.false_and, Bool.or_false] at this
    exact this
  | cons e r ih =>
    intro pre s hE hi _
    have hE' : E = (pre ++ [e]) ++ r := by rw [hE]; simp
    have hpre : ∀ x ∈ pre ++ [e], x.1 ≤ e.1 := by
      intro x hx
      rw [hE] at hs
      unfold srt at hs
      rw [List.pairwise_append] at hs
      rcases List.mem_append.1 hx with hx | hx
      · exact hs.2.2 x hx e (by simp)
      · rw [List.mem_singleton.1 hx]; exact Int.le_refl _
    have hsuf : ∀ x ∈ r, e.1 ≤ x.1 ∧ ∀ y ∈ r.head?, y.1 ≤ x.1 := by
      intro x hx
      rw [hE'] at hs
      unfold srt at hs
      rw [List.pairwise_append] at hs
      refine ⟨hs.2.2 e (by simp) x hx, fun y hy => ?_⟩
      cases r with
      | nil => cases hx
      | cons z r =>
        simp at hy
        subst hy
        rcases List.mem_cons.1 hx with rfl | hx
        · exact Int.le_refl _
        · exact (List.pairwise_cons.1 hs.2.1).1 x hx
    have hab : (if e.2.1 = 0 then s.oa + e.2.2 else s.oa) = chg (pre ++ [e]) 0 ∧ (if e.2.1 = 1 then s.ob + e.2.2 else s.ob) = chg (pre ++ [e]) 1 := by
      rw [chg_snoc, chg_snoc, hi.a, hi.b]
      constructor <;> split <;> omega
    have hre := hr e (by rw [hE]; simp)
    show can (scn f (stp f s e (at1 e.1 r)) r).out ∧ ∀ t, mem (scn f (stp f s e (at1 e.1 r)) r).out t = M t
    have hone : (∀ t, (∀ x ∈ (e :: r).head?, t < x.1) ↔ t < e.1) := fun t => by simp
    cases hx : at1 e.1 r with
    | true =>
      cases r with
      | nil => cases hx
      | cons y r =>
        have hy : y.1 = e.1 := of_decide_eq_true hx
        refine ih (pre ++ [e]) (stp f s e true) hE' ⟨hab.1, hab.2, hi.can, fun t ht => hi.cov t ?_, fun h => ?_, fun q hq => ?_⟩ (fun h => by cases h)
        · simp at ht ⊢; omega
        · obtain ⟨g1, g2, g3⟩ := hi.fr h
          refine ⟨g1, g2, fun x hx => ?_⟩
          have g4 := g3 e (by simp)
          obtain rfl : y = x := by simpa using hx
          show s.fr < y.1
          omega
        · have := hi.top q hq
          simp at this ⊢
          omega
    | false =>
      have hlt : ∀ t, e.1 ≤ t → (∀ x ∈ r.head?, t < x.1) → M t = f (decide (0 < chg (pre ++ [e]) 0)) (decide (0 < chg (pre ++ [e]) 1)) := by
        intro t h1 h2
        rw [hM t, hE', dep_append (pre ++ [e]), dep_append (pre ++ [e]), dep_low (E := pre ++ [e]) (fun x hx => by have := hpre x hx; omega), dep_low (E := pre ++ [e]) (fun x hx => by have := hpre x hx; omega)]
        have hz : ∀ x ∈ r, t < x.1 := by
          intro x hx
          cases r with
          | nil => cases hx
          | cons z r =>
            have := h2 z (by simp)
            have := (hsuf x hx).2 z (by simp)
            omega
        rw [dep_high hz, dep_high hz, Int.add_zero, Int.add_zero]
      have hnext : ∀ x ∈ r.head?, e.1 < x.1 := by
        intro x hx'
        cases r with
        | nil => cases hx'
        | cons z r =>
          simp at hx'
          subst hx'
          have h3 := (hsuf z (by simp)).1
          have : ¬ z.1 = e.1 := of_decide_eq_false hx
          omega
      have hcov : ∀ t, t < e.1 → (mem s.out t || (s.ins && decide (s.fr ≤ t))) = M t := fun t ht => hi.cov t (by simpa using ht)
      have htop : ∀ q ∈ s.out, q.2 < e.1 := fun q hq => by have := hi.top q hq; simpa using this
      have hfr : s.ins = true → 0 ≤ s.fr ∧ (∀ q ∈ s.out, q.2 < s.fr) ∧ s.fr < e.1 := fun h => by obtain ⟨a, b, c⟩ := hi.fr h; exact ⟨a, b, by simpa using c⟩
      have hafter : ∀ t, e.1 ≤ t → mem s.out t = false := fun t ht => mem_after (c := e.1) (fun q hq => by have := htop q hq; omega) ht
      have hend : r = [] → f (decide (0 < chg (pre ++ [e]) 0)) (decide (0 < chg (pre ++ [e]) 1)) = false := by
        intro h
        subst h
        rw [List.append_nil] at hE'
        rw [← hE', h0, h1]
        exact hf
      unfold stp
      rw [hab.1, hab.2]
      simp only [Bool.false_eq_true, if_false]
      cases hi' : f (decide (0 < chg (pre ++ [e]) 0)) (decide (0 < chg (pre ++ [e]) 1)) with
      | true =>
        rw [hi'] at hlt
        cases hs' : s.ins with
        | true =>
          obtain ⟨f1, f2, f3⟩ := hfr hs'
          refine ih (pre ++ [e]) ⟨chg (pre ++ [e]) 0, chg (pre ++ [e]) 1, s.fr, true, s.out⟩ hE' ⟨rfl, rfl, hi.can, fun t ht => ?_, fun _ => ⟨f1, f2, fun x hx => ?_⟩, fun q hq x hx => ?_⟩ (fun h => ?_)
          · show (mem s.out t || (true && decide (s.fr ≤ t))) = M t
            rcases Int.lt_or_le t e.1 with h | h
            · have := hcov t h; rw [hs'] at this; exact this
            · rw [hlt t h ht, hafter t h, decide_eq_true (by omega)]; rfl
          · have := hnext x hx; show s.fr < x.1; omega
          · have := hnext x hx; have := htop q hq; omega
          · rw [hend h] at hi'; cases hi'
        | false =>
          refine ih (pre ++ [e]) ⟨chg (pre ++ [e]) 0, chg (pre ++ [e]) 1, e.1, true, s.out⟩ hE' ⟨rfl, rfl, hi.can, fun t ht => ?_, fun _ => ⟨hre.1, htop, fun x hx => hnext x hx⟩, fun q hq x hx => ?_⟩ (fun h => ?_)
          · show (mem s.out t || (true && decide (e.1 ≤ t))) = M t
            rcases Int.lt_or_le t e.1 with h | h
            · have := hcov t h
              rw [hs'] at this
              rw [decide_eq_false (by omega), Bool.and_false]
              simpa using this
            · rw [hlt t h ht, hafter t h, decide_eq_true h]; rfl
          · have := hnext x hx; have := htop q hq; omega
          · rw [hend h] at hi'; cases hi'
      | false =>
        rw [hi'] at hlt
        cases hs' : s.ins with
        | true =>
          obtain ⟨f1, f2, f3⟩ := hfr hs'
          have hv : vl (s.fr, e.1) = true := vl_iff.2 ⟨f1, f3, hre.2⟩
          refine ih (pre ++ [e]) ⟨chg (pre ++ [e]) 0, chg (pre ++ [e]) 1, s.fr, false, s.out ++ [(s.fr, e.1)]⟩ hE' ⟨rfl, rfl, can_snoc hi.can hv f2, fun t ht => ?_, (fun h => by cases h), fun q hq x hx => ?_⟩ (fun _ => rfl)
          · show (mem (s.out ++ [(s.fr, e.1)]) t || (false && decide (s.fr ≤ t))) = M t
            rw [mem_append, mem_cons, mem_nil, Bool.false_and, Bool.or_false, Bool.or_false]
            rcases Int.lt_or_le t e.1 with h | h
            · have := hcov t h
              rw [hs'] at this
              rw [← this]
              unfold ctn
              rw [hv]
              simp [h]
            · rw [hlt t h ht, hafter t h]
              unfold ctn
              rw [hv]
              simp; omega
          · have := hnext x hx
            rcases List.mem_append.1 hq with hq | hq
            · have := htop q hq; omega
            · rw [List.mem_singleton.1 hq]; exact this
        | false =>
          refine ih (pre ++ [e]) ⟨chg (pre ++ [e]) 0, chg (pre ++ [e]) 1, s.fr, false, s.out⟩ hE' ⟨rfl, rfl, hi.can, fun t ht => ?_, (fun h => by cases h), fun q hq x hx => ?_⟩ (fun _ => rfl)
          · show (mem s.out t || (false && decide (s.fr ≤ t))) = M t
            rcases Int.lt_or_le t e.1 with h | h
            · have := hcov t h; rw [hs'] at this; exact this
            · rw [hlt t h ht, hafter t h]; rfl
          · have := hnext x hx; have := htop q hq; omega
/-- The scan of a set's edges: the canonical list. -/
theorem scn_all {f : Bool → Bool → Bool} (hf : f false false = false) (A B : List Pd) {E : List Eg} (hp : E.Perm (egs 0 A ++ egs 1 B)) (hs : srt E) (fr : Int) :
    can (scn f ⟨0, 0, fr, false, []⟩ E).out ∧ ∀ t, mem (scn f ⟨0, 0, fr, false, []⟩ E).out t = f (mem A t) (mem B t) := by
  have hE : ∀ e ∈ E, e ∈ egs 0 A ∨ e ∈ egs 1 B := fun e he => List.mem_append.1 (hp.mem_iff.1 he)
  have hd : ∀ t, dep E 0 t = dep (egs 0 A) 0 t ∧ dep E 1 t = dep (egs 1 B) 1 t := fun t => by
    rw [dep_perm hp, dep_perm hp, dep_append, dep_append, dep_other (i := 1) (j := 0) (by decide), dep_other (i := 0) (j := 1) (by decide)]
    omega
  refine scn_inv hf (M := fun t => f (mem A t) (mem B t)) hs (fun e he => ?_) (fun t => ?_) ?_ ?_ E [] _ rfl ⟨rfl, rfl, can_nil, fun t ht => ?_, (fun h => by cases h), (fun q hq => by cases hq)⟩ (fun _ => rfl)
  · rcases hE e he with h | h
    · have := egs_in h; omega
    · have := egs_in h; omega
  · show f (mem A t) (mem B t) = _
    rw [(hd t).1, (hd t).2, (dep_egs 0 t A).2, (dep_egs 1 t B).2]
  · rw [chg_perm hp, chg_append, chg_egs, chg_egs]; rfl
  · rw [chg_perm hp, chg_append, chg_egs, chg_egs]; rfl
  · show (mem [] t || (false && decide (fr ≤ t))) = f (mem A t) (mem B t)
    rw [Bool.false_and, Bool.or_false, mem_nil]
    have hz : ∀ x ∈ E, t < x.1 := by
      intro x hx
      cases E with
      | nil => cases hx
      | cons z E =>
        have h1 := ht z (by simp)
        rcases List.mem_cons.1 hx with rfl | hx
        · exact h1
        · have := (List.pairwise_cons.1 hs).1 x hx; omega
    have h1 := dep_high hz 0
    have h2 := dep_high hz 1
    rw [(hd t).1] at h1
    rw [(hd t).2] at h2
    have g1 := (dep_egs 0 t A).2
    have g2 := (dep_egs 1 t B).2
    rw [h1] at g1
    rw [h2] at g2
    rw [← g1, ← g2]
    exact hf.symm
/-- The walk's way through the scan: one edge more. -/
theorem scn_append (f : Bool → Bool → Bool) (s : Sc) (E : List Eg) (e : Eg) (r : List Eg) : scn f s (e :: r) = scn f (stp f s e (at1 e.1 r)) r := rfl
end Go.Proofs.Ytpbohnlfiaigjaa
