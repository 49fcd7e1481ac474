/- Plain mathematics of fees: both ways of finding them are one; the fees are a chain up to the end of the period. -/
import Derived.Test.YthjckkcafhiomaaPdQ
namespace Go.Proofs.Ythjckkcafhiomaa.Pd
open Go.RowKit

/-- A list built from each element and the one behind it. -/
def recL {α β : Type} (g : α → Option α → List β) : List α → List β
  | [] => []
  | x :: xs => g x xs.head? ++ recL g xs
theorem range_rec {α β : Type} (g : α → Option α → List β) (d : α) (l : List α) : (List.range l.length).flatMap (fun k => g (l.getD k d) (l[k + 1]?)) = recL g l := by
  induction l with
  | nil => rfl
  | cons x xs ih =>
    rw [List.length_cons, List.range_succ_eq_map, List.flatMap_cons, List.flatMap_map]
    show g x ((x :: xs)[0 + 1]?) ++ _ = g x xs.head? ++ recL g xs
    rw [← ih]
    congr 1
    · cases xs <;> rfl
/-- What one version gives: its part of the period, up to the next one. -/
def gP (a b : Int) (p : Pr) (o : Option Pr) : List Fd :=
  if max p.fr a < (match o with | some q => min q.fr b | none => b) then [(max p.fr a, (match o with | some q => min q.fr b | none => b), p.fe)] else []
def gR (nm : ByteArray) (a b : Int) (p : Pr) (o : Option Pr) : List Fd := if p.nm = nm then gP a b p (o.filter fun q => decide (q.nm = nm)) else []
theorem vl_lt {a b lo hi : Int} (h : vl a b = true) (h1 : a ≤ lo) (h2 : hi ≤ b) : vl lo hi = decide (lo < hi) := by
  unfold vl at *
  simp at h
  rw [decide_eq_true (show 0 ≤ lo by omega), decide_eq_true (show hi ≤ 12622780800 by omega)]
  simp
theorem stepF_is {F : List Pr} {a b : Int} (h : vl a b = true) (k : Nat) : stepF F a b k = gP a b (F.getD k pr0) (F[k + 1]?) := by
  unfold stepF gP
  have hh : hiF F b k = (match F[k + 1]? with | some q => min q.fr b | none => b) := by
    unfold hiF
    by_cases hk : k + 1 < F.length
    · rw [if_pos hk, List.getElem?_eq_getElem hk]; simp [List.getD, List.getElem?_eq_getElem hk]
    · rw [if_neg hk, List.getElem?_eq_none (by omega)]
  have hb : hiF F b k ≤ b := by
    unfold hiF
    split
    · exact Int.min_le_right _ _
    · exact Int.le_refl _
  rw [vl_lt h (show a ≤ loF F a k from Int.le_max_right _ _) hb, ← hh]
  unfold loF
  by_cases e : max (F.getD k pr0).fr a < hiF F b k
  · rw [decide_eq_true e, if_pos rfl, if_pos e]
  · rw [decide_eq_false e, if_neg (by simp), if_neg e]
theorem feesK_rec {F : List Pr} {a b : Int} (h : vl a b = true) : feesK F a b F.length = recL (gP a b) F := by
  unfold feesK
  rw [← range_rec (gP a b) pr0 F]
  congr 1
  funext k
  exact stepF_is h k
theorem stepR_is {l : List Pr} {nm : ByteArray} {a b : Int} (k : Nat) : stepR l nm a b k = gR nm a b (l.getD k pr0) (l[k + 1]?) := by
  unfold stepR gR
  by_cases e : (l.getD k pr0).nm = nm
  · rw [if_pos e, if_pos e]
    unfold gP
    have hh : hiR l nm b k = (match (l[k + 1]?).filter (fun q => decide (q.nm = nm)) with | some q => min q.fr b | none => b) := by
      unfold hiR
      by_cases hk : k + 1 < l.length
      · rw [decide_eq_true hk, Bool.true_and, List.getElem?_eq_getElem hk]
        have e2 : l.getD (k + 1) pr0 = l[k + 1] := by simp [List.getD, List.getElem?_eq_getElem hk]
        rw [e2]
        by_cases e3 : l[k + 1].nm = nm
        · rw [if_pos (decide_eq_true e3), Option.filter_some, if_pos (decide_eq_true e3)]
          exact Int.min_comm _ _
        · rw [if_neg (by simp [e3]), Option.filter_some, if_neg (by simp [e3])]
      · rw [decide_eq_false hk, Bool.false_and, if_neg (by simp), List.getElem?_eq_none (by omega)]
        rfl
    rw [hh]
  · rw [if_neg e, if_neg e]
theorem feesRK_rec {l : List Pr} {nm : ByteArray} {a b : Int} : feesRK l nm a b l.length = recL (gR nm a b) l := by
  unfold feesRK
  rw [← range_rec (gR nm a b) pr0 l]
  congr 1
  funext k
  exact stepR_is k
theorem rec_same {nm : ByteArray} {a b : Int} : ∀ {l : List Pr}, l.Pairwise ltP → recL (gP a b) (l.filter (qF nm)) = recL (gR nm a b) l
  | [], _ => rfl
  | x :: xs, h => by
    have ih := rec_same (nm := nm) (a := a) (b := b) (List.pairwise_cons.1 h).2
    show _ = gR nm a b x xs.head? ++ recL (gR nm a b) xs
    by_cases e : x.nm = nm
    · rw [List.filter_cons, if_pos (show qF nm x = true from decide_eq_true e)]
      show gP a b x (xs.filter (qF nm)).head? ++ recL (gP a b) (xs.filter (qF nm)) = _
      rw [ih]
      congr 1
      unfold gR
      rw [if_pos e]
      congr 1
      cases xs with
      | nil => rfl
      | cons y ys =>
        rw [List.head?_cons, Option.filter_some]
        by_cases e2 : y.nm = nm
        · rw [List.filter_cons, if_pos (show qF nm y = true from decide_eq_true e2), if_pos (decide_eq_true e2)]; rfl
        · rw [List.filter_cons, if_neg (show ¬ qF nm y = true by unfold qF; simp [e2]), if_neg (by simp [e2])]
          have hno : ys.filter (qF nm) = [] := by
            rw [List.filter_eq_nil_iff]
            intro z hz hq
            have hzn : z.nm = nm := of_decide_eq_true hq
            have h1 := (ltP_iff.1 ((List.pairwise_cons.1 h).1 y (by simp))).1
            have h2 := (ltP_iff.1 ((List.pairwise_cons.1 (List.pairwise_cons.1 h).2).1 z hz)).1
            have h3 := sLt_total h1 (fun x => e2 (x.trans e))
            rw [e, ← hzn, h2] at h3
            cases h3
          rw [hno]; rfl
    · rw [List.filter_cons, if_neg (show ¬ qF nm x = true by unfold qF; simp [e]), ih]
      unfold gR
      rw [if_neg e, List.nil_append]
theorem fees_same {l : List Pr} (h : asc l = true) (nm : ByteArray) (a b : Int) : feesR l nm a b = feesP l nm a b := by
  unfold feesR feesP
  cases hv : vl a b with
  | false => rfl
  | true => rw [if_pos rfl, if_pos rfl, feesRK_rec, feesK_rec hv, rec_same (asc_pair h)]

/-- The version of some versions at an instant. -/
def atV (V : List Pr) (t : Int) : Option Pr := (V.filter fun p => decide (p.fr ≤ t)).getLast?
theorem verA_V (l : List Pr) (nm : ByteArray) (t : Int) : verA l nm t = atV (l.filter (qF nm)) t := by
  unfold verA atV
  rw [List.filter_filter]
  congr 1
  congr 1
  funext p
  unfold qA qF
  exact Bool.and_comm _ _
/-- Fees that follow one another up to b. -/
def Chn (b : Int) (U : Int → Option Pr) : Int → List Fd → Prop
  | lo, [] => lo = b
  | lo, f :: fs => f.1 = lo ∧ f.1 < f.2.1 ∧ (∃ u, U f.1 = some u ∧ U (f.2.1 - 1) = some u ∧ u.fe = f.2.2) ∧ Chn b U f.2.1 fs
theorem Chn.mono {b : Int} {U U' : Int → Option Pr} : ∀ {lo : Int} {fs : List Fd}, (∀ t, lo ≤ t → U t = U' t) → Chn b U lo fs → Chn b U' lo fs
  | _, [], _, h => h
  | lo, f :: fs, hU, ⟨h1, h2, ⟨u, g1, g2, g3⟩, h3⟩ => by
    refine ⟨h1, h2, ⟨u, ?_, ?_, g3⟩, Chn.mono (fun t ht => hU t (by omega)) h3⟩
    · rw [← hU _ (by omega)]; exact g1
    · rw [← hU _ (by omega)]; exact g2
theorem atV_tail {v w : Pr} {r : List Pr} {t : Int} (h : w.fr ≤ t) : atV (v :: w :: r) t = atV (w :: r) t := by
  unfold atV
  have hne : (w :: r).filter (fun p => decide (p.fr ≤ t)) ≠ [] := List.ne_nil_of_mem (a := w) (List.mem_filter.2 ⟨by simp, decide_eq_true h⟩)
  rw [List.filter_cons]
  split
  · rw [List.getLast?_cons, List.getLast?_eq_some_getLast hne]; rfl
  · rfl
theorem atV_none {V : List Pr} {t : Int} (h : ∀ p ∈ V, t < p.fr) : atV V t = none := by
  unfold atV
  rw [List.filter_eq_nil_iff.2 (fun p hp => by have := h p hp; simp; omega)]; rfl
theorem atV_head {v : Pr} {r : List Pr} {t : Int} (h : v.fr ≤ t) (h2 : ∀ p ∈ r, t < p.fr) : atV (v :: r) t = some v := by
  unfold atV
  rw [List.filter_cons, if_pos (decide_eq_true h), List.filter_eq_nil_iff.2 (fun p hp => by have := h2 p hp; simp; omega)]; rfl
theorem rec_none {a b : Int} : ∀ {V : List Pr}, (∀ p ∈ V, b ≤ p.fr) → recL (gP a b) V = []
  | [], _ => rfl
  | x :: xs, h => by
    show gP a b x xs.head? ++ recL (gP a b) xs = []
    rw [rec_none fun p hp => h p (List.mem_cons_of_mem _ hp), List.append_nil]
    have := h x (by simp)
    unfold gP
    rw [if_neg]
    cases xs.head? with
    | none => show ¬ max x.fr a < b; omega
    | some q => show ¬ max x.fr a < min q.fr b; omega
/-- Versions of which all but the first begin behind a. -/
theorem core {a b : Int} (hab : a < b) : ∀ (V : List Pr) (v : Pr), (v :: V).Pairwise (fun p q => p.fr < q.fr) → (∀ p ∈ V, a < p.fr) → v.fr < b → Chn b (atV (v :: V)) (max v.fr a) (recL (gP a b) (v :: V)) ∧ recL (gP a b) (v :: V) ≠ []
  | [], v, _, _, hv => by
    have hg : recL (gP a b) [v] = [(max v.fr a, b, v.fe)] := by
      show gP a b v none ++ [] = _
      unfold gP
      rw [if_pos (by show max v.fr a < b; omega)]; rfl
    rw [hg]
    refine ⟨⟨rfl, by show max v.fr a < b; omega, ⟨v, atV_head (by show v.fr ≤ max v.fr a; omega) (by simp), atV_head (by show v.fr ≤ b - 1; omega) (by simp), rfl⟩, rfl⟩, by simp⟩
  | w :: r, v, hP, hA, hv => by
    have hvw : v.fr < w.fr := (List.pairwise_cons.1 hP).1 w (by simp)
    have haw : a < w.fr := hA w (by simp)
    have hg : recL (gP a b) (v :: w :: r) = (max v.fr a, min w.fr b, v.fe) :: recL (gP a b) (w :: r) := by
      show gP a b v (some w) ++ _ = _
      unfold gP
      rw [if_pos (by show max v.fr a < min w.fr b; omega)]; rfl
    rw [hg]
    have hall : ∀ p ∈ w :: r, w.fr ≤ p.fr := fun p hp => by
      rcases List.mem_cons.1 hp with rfl | hp
      · exact Int.le_refl _
      · have := (List.pairwise_cons.1 (List.pairwise_cons.1 hP).2).1 p hp; omega
    have hfst : ∃ u, atV (v :: w :: r) (max v.fr a) = some u ∧ atV (v :: w :: r) (min w.fr b - 1) = some u ∧ u.fe = v.fe :=
      ⟨v, atV_head (by omega) (fun p hp => by have := hall p hp; omega), atV_head (by omega) (fun p hp => by have := hall p hp; omega), rfl⟩
    refine ⟨⟨rfl, by show max v.fr a < min w.fr b; omega, hfst, ?_⟩, by simp⟩
    show Chn b (atV (v :: w :: r)) (min w.fr b) (recL (gP a b) (w :: r))
    by_cases hwb : w.fr < b
    · have ih := (core hab r w (List.pairwise_cons.1 hP).2 (fun p hp => hA p (List.mem_cons_of_mem _ hp)) hwb).1
      rw [show max w.fr a = w.fr by omega] at ih
      rw [show min w.fr b = w.fr by omega]
      exact ih.mono fun t ht => (atV_tail ht).symm
    · rw [rec_none (fun p hp => by have := hall p hp; omega)]
      show min w.fr b = b
      omega
/-- What the fees of a period are. -/
def FeeOk (U : Int → Option Pr) (a b : Int) (f : List Fd) : Prop :=
  (f = [] ∧ U a = none ∧ U (b - 1) = none) ∨ (f ≠ [] ∧ ∃ lo, a ≤ lo ∧ Chn b U lo f ∧ (U a ≠ none → lo = a) ∧ (U a = none → U (lo - 1) = none))
theorem fees_ok {a b : Int} (hab : a < b) : ∀ (V : List Pr), V.Pairwise (fun p q => p.fr < q.fr) → FeeOk (atV V) a b (recL (gP a b) V)
  | [], _ => .inl ⟨rfl, rfl, rfl⟩
  | [v], hP => by
    by_cases hv : v.fr < b
    · obtain ⟨h1, h2⟩ := core hab [] v hP (by simp) hv
      refine .inr ⟨h2, _, by omega, h1, fun h => ?_, fun h => ?_⟩
      · rcases Int.lt_or_le a v.fr with h3 | h3
        · exact absurd (atV_none (by simpa using h3)) h
        · omega
      · rcases Int.lt_or_le a v.fr with h3 | h3
        · exact atV_none (by simp; omega)
        · rw [atV_head h3 (by simp)] at h; cases h
    · exact .inl ⟨rec_none (by simp; omega), atV_none (by simp; omega), atV_none (by simp; omega)⟩
  | v :: w :: r, hP => by
    have hvw : v.fr < w.fr := (List.pairwise_cons.1 hP).1 w (by simp)
    have hall : ∀ p ∈ w :: r, w.fr ≤ p.fr := fun p hp => by
      rcases List.mem_cons.1 hp with rfl | hp
      · exact Int.le_refl _
      · have := (List.pairwise_cons.1 (List.pairwise_cons.1 hP).2).1 p hp; omega
    by_cases hwa : w.fr ≤ a
    · have ih := fees_ok hab (w :: r) (List.pairwise_cons.1 hP).2
      have hg : recL (gP a b) (v :: w :: r) = recL (gP a b) (w :: r) := by
        show gP a b v (some w) ++ _ = _
        unfold gP
        rw [if_neg (by show ¬ max v.fr a < min w.fr b; omega)]; rfl
      rw [hg]
      have hU : ∀ t, a ≤ t → atV (v :: w :: r) t = atV (w :: r) t := fun t ht => atV_tail (by omega)
      rcases ih with ⟨h1, h2, h3⟩ | ⟨h1, lo, h2, h3, h4, h5⟩
      · exact .inl ⟨h1, by rw [hU a (by omega)]; exact h2, by rw [hU _ (by omega)]; exact h3⟩
      · have hsome : atV (w :: r) a ≠ none := by
          unfold atV
          rw [Ne, List.getLast?_eq_none_iff]
          exact List.ne_nil_of_mem (a := w) (List.mem_filter.2 ⟨by simp, decide_eq_true hwa⟩)
        refine .inr ⟨h1, lo, h2, h3.mono fun t ht => (hU t (by omega)).symm, fun _ => h4 hsome, fun h => ?_⟩
        rw [hU a (by omega)] at h
        exact absurd h hsome
    · by_cases hv : v.fr < b
      · obtain ⟨h1, h2⟩ := core hab (w :: r) v hP (fun p hp => by have := hall p hp; omega) hv
        refine .inr ⟨h2, _, by omega, h1, fun h => ?_, fun h => ?_⟩
        · rcases Int.lt_or_le a v.fr with h3 | h3
          · exact absurd (atV_none (fun p hp => by rcases List.mem_cons.1 hp with rfl | hp; exact h3; have := hall p hp; omega)) h
          · omega
        · rcases Int.lt_or_le a v.fr with h3 | h3
          · exact atV_none (fun p hp => by rcases List.mem_cons.1 hp with rfl | hp; omega; have := hall p hp; omega)
          · rw [atV_head h3 (fun p hp => by have := hall p hp; omega)] at h; cases h
      · have hb : ∀ p ∈ v :: w :: r, b ≤ p.fr := fun p hp => by
          rcases List.mem_cons.1 hp with rfl | hp
          · omega
          · have := hall p hp; omega
        exact .inl ⟨rec_none hb, atV_none (fun p hp => by have := hb p hp; omega), atV_none (fun p hp => by have := hb p hp; omega)⟩
theorem feesP_ok {l : List Pr} (h : asc l = true) (nm : ByteArray) {a b : Int} (hv : vl a b = true) : FeeOk (verA l nm) a b (feesP l nm a b) := by
  have hab : a < b := by unfold vl at hv; simp at hv; omega
  unfold feesP
  rw [if_pos hv, feesK_rec hv, show verA l nm = atV (l.filter (qF nm)) from funext (verA_V l nm)]
  refine fees_ok hab _ ?_
  have hp := (asc_pair h).sublist (List.filter_sublist (p := qF nm))
  rw [List.pairwise_iff_getElem] at hp ⊢
  intro i j hi hj hij
  have h1 := (ltP_iff.1 (hp i j hi hj hij)).2
  have e1 : (l.filter (qF nm))[i].nm = nm := of_decide_eq_true (List.mem_filter.1 (List.getElem_mem hi)).2
  have e2 : (l.filter (qF nm))[j].nm = nm := of_decide_eq_true (List.mem_filter.1 (List.getElem_mem hj)).2
  exact h1 (e1.trans e2.symm)
end Go.Proofs.Ythjckkcafhiomaa.Pd
