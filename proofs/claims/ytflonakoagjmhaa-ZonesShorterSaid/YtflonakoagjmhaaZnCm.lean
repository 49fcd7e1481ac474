/- Plain facts: the one list that a map has, in order; the minimal list of a valid one. -/
import Derived.Test.YtflonakoagjmhaaZnQ
import Derived.Test.YtflonakoagjmhaaDigOrdM
namespace Go.Proofs.Ytflonakoagjmhaa.Zn
open Go.RowKit Go.Proofs.Ytflonakoagjmhaa Go.Maps

theorem asc_unique {α : Type} {lt : α → α → Prop} (irr : ∀ a, ¬ lt a a) (asym : ∀ a b, lt a b → ¬ lt b a) : ∀ {a b : List α}, a.Pairwise lt → b.Pairwise lt → (∀ x, x ∈ a ↔ x ∈ b) → a = b
  | [], [], _, _, _ => rfl
  | [], y :: b, _, _, h => absurd ((h y).2 (List.mem_cons_self ..)) (by simp)
  | x :: a, [], _, _, h => absurd ((h x).1 (List.mem_cons_self ..)) (by simp)
  | x :: a, y :: b, ha, hb, h => by
    obtain ⟨a1, a2⟩ := List.pairwise_cons.1 ha
    obtain ⟨b1, b2⟩ := List.pairwise_cons.1 hb
    have hxy : x = y := by
      rcases List.mem_cons.1 ((h x).1 (List.mem_cons_self ..)) with e | e
      · exact e
      · rcases List.mem_cons.1 ((h y).2 (List.mem_cons_self ..)) with e2 | e2
        · exact e2.symm
        · exact absurd (b1 x e) (asym _ _ (a1 y e2))
    subst hxy
    rw [asc_unique irr asym a2 b2 fun z => ?_]
    constructor
    · intro hz
      rcases List.mem_cons.1 ((h z).1 (List.mem_cons_of_mem _ hz)) with e | e
      · subst e; exact absurd (a1 z hz) (irr z)
      · exact e
    · intro hz
      rcases List.mem_cons.1 ((h z).2 (List.mem_cons_of_mem _ hz)) with e | e
      · subst e; exact absurd (b1 z hz) (irr z)
      · exact e
/-- The order of names. -/
def ltN (a b : Wd) : Prop := Op.bytesLess a b = true
theorem ltN_irr (a : Wd) : ¬ ltN a a := by unfold ltN; rw [less_irrefl]; decide
theorem ltN_asym (a b : Wd) (h : ltN a b) : ¬ ltN b a := by unfold ltN at *; rw [less_asymm a b h]; decide
/-- The order of prefixes. -/
def ltP (a b : Wd) : Prop := a.length < b.length ∨ a.length = b.length ∧ Op.bytesLess a b = true
theorem ltP_irr (a : Wd) : ¬ ltP a a := by
  rintro (h | ⟨-, h⟩)
  · omega
  · rw [less_irrefl] at h; cases h
theorem ltP_asym (a b : Wd) (h : ltP a b) : ¬ ltP b a := by
  rintro (k | ⟨k1, k2⟩)
  · rcases h with h | ⟨h, -⟩ <;> omega
  · rcases h with h | ⟨h, h2⟩
    · omega
    · rw [less_asymm a b h2] at k2; cases k2
/-- The list is that of the map, in order. -/
structure Canon (f : Wd → Option Wd) (M : List Zo) : Prop where
  asc : M.Pairwise fun a b => ltN a.nm b.nm
  up : ∀ z ∈ M, z.ps.Pairwise ltP
  ne : ∀ z ∈ M, z.ps ≠ []
  mem : ∀ p n, (p, n) ∈ pairs M ↔ f p = some n
theorem asc_inj {M : List Zo} (h : M.Pairwise fun a b => ltN a.nm b.nm) : ∀ {y z : Zo}, y ∈ M → z ∈ M → y.nm = z.nm → y = z := by
  intro y z hy hz he
  obtain ⟨i, hi, rfl⟩ := List.mem_iff_getElem.1 hy
  obtain ⟨j, hj, rfl⟩ := List.mem_iff_getElem.1 hz
  rw [List.pairwise_iff_getElem] at h
  rcases Nat.lt_trichotomy i j with hlt | rfl | hlt
  · have := h i j hi hj hlt; rw [he] at this; exact absurd this (ltN_irr _)
  · rfl
  · have := h j i hj hi hlt; rw [he] at this; exact absurd this (ltN_irr _)
theorem Canon.ps {f : Wd → Option Wd} {M : List Zo} (h : Canon f M) {z : Zo} (hz : z ∈ M) (p : Wd) : p ∈ z.ps ↔ f p = some z.nm := by
  rw [← h.mem, mem_pairs]
  constructor
  · intro hp; exact ⟨z, hz, rfl, hp⟩
  · rintro ⟨y, hy, he, hp⟩
    rw [asc_inj h.asc hy hz he] at hp; exact hp
theorem canon_unique {f : Wd → Option Wd} {M M' : List Zo} (h : Canon f M) (h' : Canon f M') : M = M' := by
  have key : ∀ {A B : List Zo}, Canon f A → Canon f B → ∀ z, z ∈ A → z ∈ B := by
    intro A B hA hB z hz
    obtain ⟨p, hp⟩ : ∃ p, p ∈ z.ps := List.exists_mem_of_ne_nil _ (hA.ne z hz)
    have h1 := (hA.ps hz p).1 hp
    obtain ⟨y, hy, he, hpy⟩ := mem_pairs.1 ((hB.mem p z.nm).2 h1)
    have : y = z := by
      have hps : y.ps = z.ps := asc_unique ltP_irr ltP_asym (hB.up y hy) (hA.up z hz) fun q => by rw [hB.ps hy, hA.ps hz, he]
      obtain ⟨yn, yp⟩ := y
      obtain ⟨zn, zp⟩ := z
      simp only at he hps
      rw [he, hps]
    rw [← this]; exact hy
  exact asc_unique (lt := fun a b : Zo => ltN a.nm b.nm) (fun a => ltN_irr a.nm) (fun a b => ltN_asym a.nm b.nm) h.asc h'.asc fun z => ⟨key h h' z, key h' h z⟩
theorem canon_ext {f g : Wd → Option Wd} {M : List Zo} (h : Canon f M) (hfg : ∀ s, f s = g s) : Canon g M := ⟨h.asc, h.up, h.ne, fun p n => by rw [h.mem, hfg]⟩
/-- Of a valid list. -/
theorem nodup_inj {l : List Zo} (h : (nms l).Nodup) : ∀ {y z : Zo}, y ∈ l → z ∈ l → y.nm = z.nm → y = z := by
  intro y z hy hz he
  obtain ⟨i, hi, rfl⟩ := List.mem_iff_getElem.1 hy
  obtain ⟨j, hj, rfl⟩ := List.mem_iff_getElem.1 hz
  unfold nms List.Nodup at h
  rw [List.pairwise_map, List.pairwise_iff_getElem] at h
  rcases Nat.lt_trichotomy i j with hlt | rfl | hlt
  · exact absurd he (h i j hi hj hlt)
  · rfl
  · exact absurd he.symm (h j i hj hi hlt)
theorem lkN_some {f : Wd → Option Wd} {s n : Wd} (hn : n ≠ []) : ∀ k, lkN f s k = n → ∃ j, 0 < j ∧ j ≤ k ∧ f (s.take j) = some n
  | 0, h => absurd h.symm hn
  | k + 1, h => by
    rw [lkN] at h
    cases hf : f (s.take (k + 1)) with
    | some z => rw [hf] at h; simp only at h; subst h; exact ⟨k + 1, by omega, Nat.le_refl _, hf⟩
    | none =>
      rw [hf] at h
      obtain ⟨j, h1, h2, h3⟩ := lkN_some hn k h
      exact ⟨j, h1, by omega, h3⟩
theorem min_len : ∀ {ps : List Wd}, ps ≠ [] → ∃ p ∈ ps, ∀ q ∈ ps, p.length ≤ q.length
  | [], h => absurd rfl h
  | [p], _ => ⟨p, by simp, fun q hq => by have : q = p := by simpa using hq
                                          rw [this]; exact Nat.le_refl _⟩
  | p :: q :: t, _ => by
    obtain ⟨m, hm, hmin⟩ := min_len (ps := q :: t) (by simp)
    rcases Nat.lt_or_ge m.length p.length with h | h
    · exact ⟨m, List.mem_cons_of_mem _ hm, fun x hx => by
        rcases List.mem_cons.1 hx with rfl | hx
        · omega
        · exact hmin x hx⟩
    · exact ⟨p, List.mem_cons_self .., fun x hx => by
        rcases List.mem_cons.1 hx with rfl | hx
        · exact Nat.le_refl _
        · have := hmin x hx; omega⟩
/-- The shortest prefix of a zone makes a difference. -/
theorem kept_ne {l : List Zo} (h : Vld l) {z : Zo} (hz : z ∈ l) : ∃ p ∈ z.ps, keepB (val (pairs l)) p z.nm = true := by
  obtain ⟨p, hp, hmin⟩ := min_len (h.ok z hz).2.1
  refine ⟨p, hp, ?_⟩
  unfold keepB
  apply Classical.byContradiction
  intro hk
  have hlk : lk (val (pairs l)) p.dropLast = z.nm := by simpa using hk
  obtain ⟨j, h1, h2, h3⟩ := lkN_some (nmB_ne (h.ok z hz).1) _ hlk
  obtain ⟨y, hy, he, hq⟩ := mem_pairs.1 (val_mem h3)
  rw [nodup_inj h.nd hy hz he] at hq
  have := hmin _ hq
  rw [List.length_take] at this
  have hp1 : p ≠ [] := num_ne ((h.ok z hz).2.2.2 p hp)
  have := List.length_pos_iff.2 hp1
  rw [List.length_dropLast] at *
  omega
/-- The kept prefixes. -/
theorem min_mem {l : List Zo} (h : Vld l) (p n : Wd) : minF (val (pairs l)) p = some n ↔ ∃ z ∈ l, z.nm = n ∧ p ∈ z.ps ∧ keepB (val (pairs l)) p z.nm = true := by
  unfold minF
  constructor
  · intro hm
    cases hf : val (pairs l) p with
    | none => rw [hf] at hm; cases hm
    | some m =>
      rw [hf] at hm
      simp only at hm
      split at hm
      · rename_i hk
        injection hm with hm
        subst hm
        obtain ⟨z, hz, rfl, hp⟩ := mem_pairs.1 (val_mem hf)
        exact ⟨z, hz, rfl, hp, hk⟩
      · cases hm
  · rintro ⟨z, hz, rfl, hp, hk⟩
    rw [val_of h.uniq (mem_pairs.2 ⟨z, hz, rfl, hp⟩)]
    simp only [hk, if_true]
/-- The minimal list of a valid one. -/
def MinL (l M : List Zo) : Prop := Canon (minF (val (pairs l))) M
/-- A list of the zones in the order of their names, each with its kept prefixes in order, is the minimal one. -/
theorem minL_of {l M : List Zo} (h : Vld l) (hasc : M.Pairwise fun a b => ltN a.nm b.nm) (hn : ∀ n, n ∈ nms M ↔ n ∈ nms l) (hup : ∀ z ∈ M, z.ps.Pairwise ltP)
    (hps : ∀ y ∈ M, ∀ z ∈ l, y.nm = z.nm → ∀ p, p ∈ y.ps ↔ p ∈ z.ps ∧ keepB (val (pairs l)) p z.nm = true) : MinL l M := by
  have hfind : ∀ y ∈ M, ∃ z ∈ l, y.nm = z.nm := fun y hy => by
    obtain ⟨z, hz, he⟩ := List.mem_map.1 ((hn y.nm).1 (List.mem_map.2 ⟨y, hy, rfl⟩))
    exact ⟨z, hz, he.symm⟩
  refine ⟨hasc, hup, fun y hy => ?_, fun p n => ?_⟩
  · obtain ⟨z, hz, he⟩ := hfind y hy
    obtain ⟨p, hp, hk⟩ := kept_ne h hz
    exact List.ne_nil_of_mem ((hps y hy z hz he p).2 ⟨hp, hk⟩)
  · rw [min_mem h, mem_pairs]
    constructor
    · rintro ⟨y, hy, rfl, hp⟩
      obtain ⟨z, hz, he⟩ := hfind y hy
      exact ⟨z, hz, he.symm, (hps y hy z hz he p).1 hp⟩
    · rintro ⟨z, hz, rfl, hp⟩
      obtain ⟨y, hy, he⟩ := List.mem_map.1 ((hn z.nm).2 (List.mem_map.2 ⟨z, hz, rfl⟩))
      exact ⟨y, hy, he, (hps y hy z hz he p).2 hp⟩
theorem val0 {l : List Zo} (h : Vld l) : val (pairs l) [] = none := val_none.2 fun n hn => h.full _ _ hn rfl
theorem valn {l : List Zo} (h : Vld l) (s n : Wd) (hv : val (pairs l) s = some n) : n ≠ [] := h.named _ _ (val_mem hv)
/-- Two valid lists are equal exactly if their minimal ones are the same. -/
theorem eq_min {a b M N : List Zo} (ha : Vld a) (hb : Vld b) (hM : MinL a M) (hN : MinL b N) : M = N ↔ ∀ s, lk (val (pairs a)) s = lk (val (pairs b)) s := by
  rw [← min_ext (val0 ha) (val0 hb) (valn ha) (valn hb)]
  constructor
  · rintro rfl s
    apply Option.ext
    intro n
    rw [← hM.mem, ← hN.mem]
  · intro h
    exact canon_unique (canon_ext hM h) hN
theorem eqZ_lk {a b : List Zo} (ha : Vld a) (hb : Vld b) : eqZ a b = true ↔ ∀ s, lk (val (pairs a)) s = lk (val (pairs b)) s := by
  unfold eqZ
  rw [decide_eq_true (ck_vld.2 ha), decide_eq_true (ck_vld.2 hb)]
  simp only [Bool.true_and, Bool.and_eq_true]
  unfold sameL
  simp only [List.all_eq_true, beq_iff_eq]
  have hv : ∀ {l : List Zo} {s : Wd}, val (pairs l) s ≠ none → s ∈ fsts l := by
    intro l s h
    cases hf : val (pairs l) s with
    | none => exact absurd hf h
    | some n => exact List.mem_map.2 ⟨_, val_mem hf, rfl⟩
  constructor
  · rintro ⟨h1, h2⟩
    refine lk_agree fun s hs => ?_
    rcases hs with hs | hs
    · exact h1 s (hv hs)
    · exact (h2 s (hv hs)).symm
  · intro h; exact ⟨fun s _ => h s, fun s _ => (h s).symm⟩
end Go.Proofs.Ytflonakoagjmhaa.Zn
