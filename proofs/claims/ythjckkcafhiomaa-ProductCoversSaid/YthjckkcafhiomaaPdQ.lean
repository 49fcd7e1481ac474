/- Plain mathematics: the names at an instant, and the fees, found in both ways, are the same for ascending lists. -/
import Derived.Test.YthjckkcafhiomaaPdRA
import Derived.Test.YthjckkcafhiomaaPdRn
import Derived.Test.YthjckkcafhiomaaPdRf
import Derived.Test.YthjckkcafhiomaaPdAt
namespace Go.Proofs.Ythjckkcafhiomaa.Pd
open Go.RowKit

/-- One product comes before another. -/
def ltP (p q : Pr) : Prop := bad p q = false
theorem ltP_iff {p q : Pr} : ltP p q ↔ (sLt q.nm p.nm = false ∧ (p.nm = q.nm → p.fr < q.fr)) := by
  unfold ltP bad
  rw [Bool.or_eq_false_iff]
  constructor
  · rintro ⟨h1, h2⟩
    refine ⟨h1, fun e => ?_⟩
    rw [decide_eq_true e, Bool.true_and] at h2
    simpa using h2
  · rintro ⟨h1, h2⟩
    refine ⟨h1, ?_⟩
    by_cases e : p.nm = q.nm
    · rw [decide_eq_true e, Bool.true_and]; have := h2 e; simp; omega
    · rw [decide_eq_false e]; rfl
theorem ltP_trans {p q r : Pr} (h : ltP p q) (h2 : ltP q r) : ltP p r := by
  rw [ltP_iff] at *
  obtain ⟨a1, a2⟩ := h
  obtain ⟨b1, b2⟩ := h2
  have key : sLt r.nm p.nm = false := by
    cases hx : sLt r.nm p.nm with
    | false => rfl
    | true =>
      by_cases e : p.nm = q.nm
      · rw [e] at hx; rw [hx] at b1; cases b1
      · have := sLt_total a1 (fun x => e x.symm)
        have := sLt_trans hx this
        rw [this] at b1; cases b1
  refine ⟨key, fun e => ?_⟩
  have hpq : p.nm = q.nm := by
    by_cases e2 : p.nm = q.nm
    · exact e2
    · exfalso
      have := sLt_total a1 (fun x => e2 x.symm)
      rw [e] at this
      by_cases e3 : q.nm = r.nm
      · exact e2 (e.trans e3.symm)
      · rw [this] at b1; cases b1
  have := a2 hpq
  have := b2 (hpq ▸ e)
  omega
theorem asc_adj {l : List Pr} (h : asc l = true) {j : Nat} (hj : j + 1 < l.length) : ltP (l.getD j pr0) (l.getD (j + 1) pr0) := by
  have := asc_at h hj
  unfold aAt at this
  rw [Bool.and_eq_true] at this
  have h2 := this.2
  rw [decide_eq_false (show ¬ j + 1 = 0 by omega), Bool.false_or] at h2
  unfold ltP
  simpa using h2
theorem asc_fr {l : List Pr} (h : asc l = true) : ∀ p ∈ l, 0 ≤ p.fr ∧ p.fr < 12622780800 := fun p hp => by
  obtain ⟨j, hj, rfl⟩ := List.mem_iff_getElem.1 hp
  have := asc_at h hj
  unfold aAt at this
  rw [Bool.and_eq_true] at this
  have e : l.getD j pr0 = l[j] := by simp [List.getD, List.getElem?_eq_getElem hj]
  rw [e] at this
  have h1 := this.1
  rw [Bool.and_eq_true] at h1
  exact ⟨of_decide_eq_true h1.1, of_decide_eq_true h1.2⟩
theorem asc_far {l : List Pr} (h : asc l = true) (i : Nat) : ∀ d, i + d + 1 < l.length → ltP (l.getD i pr0) (l.getD (i + d + 1) pr0)
  | 0, hd => asc_adj h hd
  | d + 1, hd => ltP_trans (asc_far h i d (by omega)) (asc_adj h (j := i + d + 1) (by omega))
theorem asc_pair {l : List Pr} (h : asc l = true) : l.Pairwise ltP := by
  rw [List.pairwise_iff_getElem]
  intro i j hi hj hij
  obtain ⟨d, rfl⟩ : ∃ d, j = i + d + 1 := ⟨j - i - 1, by omega⟩
  have := asc_far h i d hj
  simpa [List.getD, List.getElem?_eq_getElem hi, List.getElem?_eq_getElem hj] using this

theorem upTo_congr {d e : Array (List UInt8)} {m : Nat} (h : ∀ j, j < m → d[j]! = e[j]!) : Lib.compactUpTo d m = Lib.compactUpTo e m := by
  induction m with
  | zero => rfl
  | succ m ih =>
    rw [Lib.compactUpTo_succ, Lib.compactUpTo_succ, ih fun j hj => h j (by omega), h m (by omega)]
    have hk : Lib.keeps d m = Lib.keeps e m := by
      unfold Lib.keeps
      by_cases hm : m = 0
      · simp [hm]
      · rw [h m (by omega), h (m - 1) (by omega)]
    rw [hk]
theorem compact_snoc (zs : List (List UInt8)) (y : List UInt8) : Lib.compact (zs ++ [y]) = Lib.compact zs ++ (if zs.getLast? = some y then [] else [y]) := by
  have hget : ∀ j, j < zs.length → (zs ++ [y]).toArray[j]! = zs.toArray[j]! := fun j hj => by
    rw [getElem!_pos _ j (by simp; omega), getElem!_pos _ j (by simpa using hj)]
    simp [List.getElem_append_left hj]
  have hy : (zs ++ [y]).toArray[zs.length]! = y := by
    rw [getElem!_pos _ _ (by simp)]
    simp
  unfold Lib.compact
  rw [List.length_append, show zs.length + [y].length = zs.length + 1 from rfl, Lib.compactUpTo_succ, upTo_congr hget, hy]
  congr 1
  by_cases hz : zs.length = 0
  · obtain rfl : zs = [] := List.length_eq_zero_iff.1 hz
    simp [Lib.keeps]
  · have hk : Lib.keeps (zs ++ [y]).toArray zs.length = !decide (zs.getLast? = some y) := by
      unfold Lib.keeps
      rw [hy, hget (zs.length - 1) (by omega), getElem!_pos _ _ (by simp; omega), List.getLast?_eq_getElem?, List.getElem?_eq_getElem (by omega)]
      simp only [hz, false_or, Option.some.injEq, List.getElem_toArray]
      by_cases e : zs[zs.length - 1] = y
      · simp [e]
      · simp [e, Ne.symm e]
    rw [hk]
    by_cases e : zs.getLast? = some y <;> simp [e]
theorem cmpl_snoc (ns : List ByteArray) (x : ByteArray) : cmpl (ns ++ [x]) = cmpl ns ++ (if ns.getLast? = some x then [] else [x]) := by
  unfold cmpl
  rw [List.map_append, List.map_cons, List.map_nil, compact_snoc, List.map_append]
  congr 1
  have : ((ns.map fun s => s.data.toList).getLast? = some x.data.toList) ↔ ns.getLast? = some x := by
    rw [List.getLast?_map]
    cases ns.getLast? with
    | none => simp
    | some y =>
      simp only [Option.map_some, Option.some.injEq]
      constructor
      · intro h; exact toList_eq (by rw [Lib.toList_data, Lib.toList_data]; exact h)
      · rintro rfl; rfl
  by_cases e : ns.getLast? = some x
  · rw [if_pos e, if_pos (this.2 e)]; rfl
  · rw [if_neg e, if_neg (fun h => e (this.1 h))]; rfl
theorem cmpl_nil : cmpl [] = [] := rfl
theorem rev_ind {α : Type} {P : List α → Prop} (h0 : P []) (h1 : ∀ l x, P l → P (l ++ [x])) (l : List α) : P l := by
  have : ∀ m : List α, P m.reverse := by
    intro m
    induction m with
    | nil => exact h0
    | cons x m ih => rw [List.reverse_cons]; exact h1 _ _ ih
  have := this l.reverse
  rwa [List.reverse_reverse] at this
theorem mem_cmpl (ns : List ByteArray) (x : ByteArray) : x ∈ cmpl ns ↔ x ∈ ns := by
  refine rev_ind (P := fun ns => x ∈ cmpl ns ↔ x ∈ ns) Iff.rfl (fun l y ih => ?_) ns
  rw [cmpl_snoc, List.mem_append, List.mem_append, ih]
  by_cases e : l.getLast? = some y
  · rw [if_pos e]
    constructor
    · rintro (h | h)
      · exact .inl h
      · cases h
    · rintro (h | h)
      · exact .inl h
      · obtain rfl : x = y := by simpa using h
        exact .inl (List.mem_of_getLast? e)
  · rw [if_neg e]
/-- Not descending. -/
def leT (a b : ByteArray) : Prop := sLt b a = false
theorem last_of {ns : List ByteArray} {x : ByteArray} (hs : ns.Pairwise leT) (hx : ∀ y ∈ ns, leT y x) (hm : x ∈ ns) : ns.getLast? = some x := by
  have hne : ns ≠ [] := List.ne_nil_of_mem hm
  obtain ⟨m, z, rfl⟩ : ∃ m z, ns = m ++ [z] := ⟨ns.dropLast, ns.getLast hne, (List.dropLast_concat_getLast hne).symm⟩
  rw [List.getLast?_concat]
  congr 1
  have hz : leT z x := hx z (by simp)
  rw [List.pairwise_append] at hs
  rcases List.mem_append.1 hm with h | h
  · have hxz := hs.2.2 x h z (by simp)
    by_cases e : z = x
    · exact e
    · exfalso
      have := sLt_total hz (Ne.symm e)
      unfold leT at hxz
      rw [this] at hxz; cases hxz
  · exact (by simpa using h : x = z).symm
theorem hasT_iff (l : List ByteArray) (s : ByteArray) : hasT l s = true ↔ s ∈ l := by
  unfold hasT
  rw [List.any_eq_true]
  constructor
  · rintro ⟨x, hx, h⟩
    obtain rfl : x = s := of_decide_eq_true h
    exact hx
  · exact fun h => ⟨s, h, decide_eq_true rfl⟩
theorem hasT_not {l : List ByteArray} {s : ByteArray} (h : s ∉ l) : hasT l s = false := by
  cases e : hasT l s with
  | false => rfl
  | true => exact absurd ((hasT_iff l s).1 e) h
theorem leT_of {p q : Pr} (h : ltP p q) : leT p.nm q.nm := (ltP_iff.1 h).1
/-- The names of the first k, sorted, and none greater than the next. -/
theorem nR_is {l : List Pr} (hp : l.Pairwise ltP) (t : Int) : ∀ k, k ≤ l.length → nR l t k = cmpl ((kp (qN t) l k).map (·.nm))
  | 0, _ => rfl
  | k + 1, hk => by
    have ih := nR_is hp t k (by omega)
    have hkl : k < l.length := by omega
    cases hq : qN t (l.getD k pr0) with
    | false => rw [nR_no hq, kp_no hkl hq, ih]
    | true =>
      rw [kp_yes hkl hq, List.map_append, List.map_cons, List.map_nil, cmpl_snoc]
      have h2 : (l.take (k + 1)).Pairwise ltP := hp.sublist (List.take_sublist _ _)
      rw [take_next hkl, List.pairwise_append] at h2
      have hs : ((kp (qN t) l k).map (·.nm)).Pairwise leT := by
        rw [List.pairwise_map]
        exact (h2.1.sublist List.filter_sublist).imp fun h => leT_of h
      have hx : ∀ y ∈ (kp (qN t) l k).map (·.nm), leT y (l.getD k pr0).nm := fun y hy => by
        obtain ⟨p, hp2, rfl⟩ := List.mem_map.1 hy
        exact leT_of (h2.2.2 p (List.mem_filter.1 hp2).1 _ (by simp))
      by_cases e : ((kp (qN t) l k).map (·.nm)).getLast? = some (l.getD k pr0).nm
      · rw [if_pos e, List.append_nil, ← ih, nR_has]
        rw [hasT_iff, ih, mem_cmpl]
        exact List.mem_of_getLast? e
      · rw [if_neg e, ← ih, nR_yes hq]
        refine hasT_not ?_
        rw [ih, mem_cmpl]
        exact fun h => e (last_of hs hx h)
theorem names_same {l : List Pr} (h : asc l = true) (t : Int) : namesR l t = namesP l t := by
  unfold namesR namesP
  rw [nR_is (asc_pair h) t _ (Nat.le_refl _), kp_all]
/-- The names are ascending. -/
theorem cmpl_up {ns : List ByteArray} : ns.Pairwise leT → (cmpl ns).Pairwise fun a b => sLt a b = true := by
  refine rev_ind (P := fun ns => ns.Pairwise leT → (cmpl ns).Pairwise fun a b => sLt a b = true) (fun _ => List.Pairwise.nil) (fun l y ih => ?_) ns
  intro h
  rw [List.pairwise_append] at h
  rw [cmpl_snoc]
  by_cases e : l.getLast? = some y
  · rw [if_pos e, List.append_nil]; exact ih h.1
  · rw [if_neg e, List.pairwise_append]
    refine ⟨ih h.1, List.pairwise_singleton _ _, fun a ha b hb => ?_⟩
    obtain rfl : b = y := by simpa using hb
    have hal : a ∈ l := (mem_cmpl l a).1 ha
    have h1 := h.2.2 a hal b (by simp)
    by_cases e2 : a = b
    · subst e2
      exact absurd (last_of h.1 (fun z hz => h.2.2 z hz a (by simp)) hal) e
    · exact sLt_total h1 (Ne.symm e2)
theorem namesP_up {l : List Pr} (h : asc l = true) (t : Int) : (namesP l t).Pairwise fun a b => sLt a b = true := by
  unfold namesP
  refine cmpl_up ?_
  rw [List.pairwise_map]
  exact ((asc_pair h).sublist List.filter_sublist).imp fun h => leT_of h
theorem namesP_mem (l : List Pr) (t : Int) (x : ByteArray) : x ∈ namesP l t ↔ ∃ p ∈ l, p.nm = x ∧ p.fr ≤ t := by
  unfold namesP
  rw [mem_cmpl, List.mem_map]
  constructor
  · rintro ⟨p, hp, rfl⟩
    rw [List.mem_filter] at hp
    exact ⟨p, hp.1, rfl, of_decide_eq_true hp.2⟩
  · rintro ⟨p, hp, rfl, h⟩
    exact ⟨p, List.mem_filter.2 ⟨hp, decide_eq_true h⟩, rfl⟩
theorem verA_some (l : List Pr) (nm : ByteArray) (t : Int) : (verA l nm t).isSome = true ↔ ∃ p ∈ l, p.nm = nm ∧ p.fr ≤ t := by
  unfold verA
  rw [List.getLast?_isSome]
  constructor
  · intro h
    obtain ⟨p, hp⟩ := List.exists_mem_of_ne_nil _ h
    rw [List.mem_filter] at hp
    have := hp.2
    unfold qA at this
    rw [Bool.and_eq_true] at this
    exact ⟨p, hp.1, of_decide_eq_true this.1, of_decide_eq_true this.2⟩
  · rintro ⟨p, hp, h1, h2⟩
    exact List.ne_nil_of_mem (List.mem_filter.2 ⟨hp, by unfold qA; rw [decide_eq_true h1, decide_eq_true h2]; rfl⟩)
theorem names_has (l : List Pr) (t : Int) (x : ByteArray) : hasT (namesP l t) x = (verA l x t).isSome := by
  cases h : (verA l x t).isSome with
  | true => rw [verA_some] at h; exact (hasT_iff _ _).2 ((namesP_mem l t x).2 h)
  | false =>
    refine hasT_not fun hm => ?_
    have := (verA_some l x t).2 ((namesP_mem l t x).1 hm)
    rw [h] at this; cases this
end Go.Proofs.Ythjckkcafhiomaa.Pd
