/- Plain facts: what a valid list of zones is. -/
import Derived.Test.YtflonakoagjmhaaZnRf
namespace Go.Proofs.Ytflonakoagjmhaa.Zn
open Go.RowKit Go.Proofs.Ytflonakoagjmhaa Go.Maps

theorem anyP_no {L : List (Wd × Wd)} {s : Wd} : anyP L s = false ↔ s ∉ L.map (·.1) := by
  unfold anyP
  rw [List.any_eq_false, List.mem_map]
  constructor
  · rintro h ⟨e, he, rfl⟩; have := h e he; simp at this
  · intro h e he hb; exact h ⟨e, he, by simpa using hb⟩
theorem fst_mk (nm : Wd) (ps : List Wd) : (mk nm ps).map (·.1) = ps := by
  induction ps with
  | nil => rfl
  | cons p t ih => exact congrArg (List.cons p) ih
theorem adP_zero {nm : Wd} : ∀ {ps : List Wd} {L : List (Wd × Wd)}, (adP nm L ps).1 = 0 ↔ (∀ p ∈ ps, numB p = true) ∧ ps.Nodup ∧ ∀ p ∈ ps, p ∉ L.map (·.1)
  | [], L => by simp [adP]
  | p :: t, L => by
    rw [adP]
    by_cases h1 : numB p = false
    · rw [if_pos h1]
      simp [h1]
    · have h1' : numB p = true := by simpa using h1
      rw [if_neg h1, val_any]
      by_cases h2 : anyP L p = true
      · rw [if_pos h2]
        have h3 : p ∈ L.map (·.1) := by
          apply Classical.byContradiction
          intro h; rw [anyP_no.2 h] at h2; cases h2
        constructor
        · intro h; cases h
        · rintro ⟨-, -, h⟩; exact absurd h3 (h p (List.mem_cons_self ..))
      · have h2' : anyP L p = false := by simpa using h2
        have h3 := anyP_no.1 h2'
        rw [if_neg h2, adP_zero]
        constructor
        · rintro ⟨a, b, c⟩
          refine ⟨fun q hq => ?_, List.nodup_cons.2 ⟨fun hp => ?_, b⟩, fun q hq => ?_⟩
          · rcases List.mem_cons.1 hq with rfl | hq
            · exact h1'
            · exact a q hq
          · exact c p hp (by simp)
          · rcases List.mem_cons.1 hq with rfl | hq
            · exact h3
            · intro hm; exact c q hq (by rw [List.map_append]; exact List.mem_append.2 (.inl hm))
        · rintro ⟨a, b, c⟩
          obtain ⟨b1, b2⟩ := List.nodup_cons.1 b
          refine ⟨fun q hq => a q (List.mem_cons_of_mem _ hq), b2, fun q hq hm => ?_⟩
          rw [List.map_append] at hm
          rcases List.mem_append.1 hm with hm | hm
          · exact c q (List.mem_cons_of_mem _ hq) hm
          · have : q = p := by simpa using hm
            subst this; exact b1 hq
/-- A zone by itself. -/
def OkZ (z : Zo) : Prop := nmB z.nm = true ∧ z.ps ≠ [] ∧ z.ps.length ≤ 64 ∧ ∀ p ∈ z.ps, numB p = true
def fsts (l : List Zo) : List Wd := (pairs l).map (·.1)
theorem fsts_cons (z : Zo) (l : List Zo) : fsts (z :: l) = z.ps ++ fsts l := by
  unfold fsts
  rw [pairs_cons, List.map_append]
  congr 1
  exact fst_mk z.nm z.ps
theorem fsts_app (a b : List Zo) : fsts (a ++ b) = fsts a ++ fsts b := by unfold fsts; rw [pairs_app, List.map_append]
theorem zE_zero {seen : List Zo} {z : Zo} : zE seen z = 0 ↔ OkZ z ∧ (∀ y ∈ seen, y.nm ≠ z.nm) ∧ z.ps.Nodup ∧ ∀ p ∈ z.ps, p ∉ fsts seen := by
  unfold zE OkZ
  by_cases h1 : nmB z.nm = false
  · rw [if_pos h1]; simp [h1]
  · have h1' : nmB z.nm = true := by simpa using h1
    rw [if_neg h1]
    by_cases h2 : (seen.any fun e => e.nm == z.nm) = true
    · rw [if_pos h2]
      obtain ⟨y, hy, he⟩ := List.any_eq_true.1 h2
      constructor
      · intro h; cases h
      · rintro ⟨-, h, -⟩; exact absurd (by simpa using he) (h y hy)
    · have h2' : ∀ y ∈ seen, y.nm ≠ z.nm := fun y hy he => h2 (List.any_eq_true.2 ⟨y, hy, by simpa using he⟩)
      rw [if_neg h2]
      unfold adZ
      by_cases h3 : z.ps.length = 0
      · rw [if_pos h3]
        constructor
        · intro h; cases h
        · rintro ⟨⟨-, h, -⟩, -⟩; exact absurd (List.length_eq_zero_iff.1 h3) h
      · rw [if_neg h3]
        by_cases h4 : 64 < z.ps.length
        · rw [if_pos h4]
          constructor
          · intro h; cases h
          · rintro ⟨⟨-, -, h, -⟩, -⟩; omega
        · rw [if_neg h4, adP_zero]
          constructor
          · rintro ⟨a, b, c⟩
            exact ⟨⟨h1', fun h => h3 (by rw [h]; rfl), by omega, a⟩, h2', b, c⟩
          · rintro ⟨⟨-, -, -, a⟩, -, b, c⟩
            exact ⟨a, b, c⟩
def nms (l : List Zo) : List Wd := l.map (·.nm)
theorem ixF_zero : ∀ {t seen : List Zo}, (ixF seen (pairs seen) t).1 = 0 ↔ (∀ z ∈ t, OkZ z) ∧ (nms t).Nodup ∧ (∀ z ∈ t, ∀ y ∈ seen, y.nm ≠ z.nm) ∧ (fsts t).Nodup ∧ ∀ p ∈ fsts t, p ∉ fsts seen
  | [], seen => by simp [ixF, nms, fsts, pairs]
  | z :: t, seen => by
    rw [ixF_step]
    by_cases h0 : zE seen z = 0
    · rw [if_pos h0, ixF_zero]
      obtain ⟨a1, a2, a3, a4⟩ := zE_zero.1 h0
      have hf : fsts (seen ++ [z]) = fsts seen ++ z.ps := by rw [fsts_app, fsts_cons]; simp [fsts, pairs]
      rw [hf]
      constructor
      · rintro ⟨b1, b2, b3, b4, b5⟩
        refine ⟨?_, ?_, ?_, ?_, ?_⟩
        · intro y hy; rcases List.mem_cons.1 hy with rfl | hy
          · exact a1
          · exact b1 y hy
        · show (z.nm :: nms t).Nodup
          refine List.nodup_cons.2 ⟨fun hm => ?_, b2⟩
          obtain ⟨y, hy, he⟩ := List.mem_map.1 hm
          exact b3 y hy z (by simp) he.symm
        · intro y hy; rcases List.mem_cons.1 hy with rfl | hy
          · exact a2
          · intro x hx; exact b3 y hy x (List.mem_append.2 (.inl hx))
        · rw [fsts_cons, List.nodup_append]
          exact ⟨a3, b4, fun p hp q hq he => b5 q hq (List.mem_append.2 (.inr (he ▸ hp)))⟩
        · intro p hp; rw [fsts_cons] at hp
          rcases List.mem_append.1 hp with hp | hp
          · exact a4 p hp
          · intro hm; exact b5 p hp (List.mem_append.2 (.inl hm))
      · rintro ⟨b1, b2, b3, b4, b5⟩
        have b2 : (z.nm :: nms t).Nodup := b2
        obtain ⟨c1, c2⟩ := List.nodup_cons.1 b2
        rw [fsts_cons, List.nodup_append] at b4
        rw [fsts_cons] at b5
        refine ⟨fun y hy => b1 y (List.mem_cons_of_mem _ hy), c2, fun y hy x hx => ?_, b4.2.1, fun p hp hm => ?_⟩
        · rcases List.mem_append.1 hx with hx | hx
          · exact b3 y (List.mem_cons_of_mem _ hy) x hx
          · have : x = z := by simpa using hx
            subst this
            intro he; exact c1 (List.mem_map.2 ⟨y, hy, he.symm⟩)
        · rcases List.mem_append.1 hm with hm | hm
          · exact b5 p (List.mem_append.2 (.inr hp)) hm
          · exact b4.2.2 p hm p hp rfl
    · rw [if_neg h0]
      constructor
      · intro h; exact absurd h h0
      · rintro ⟨b1, b2, b3, b4, b5⟩
        rw [fsts_cons] at b4 b5
        rw [List.nodup_append] at b4
        exact absurd (zE_zero.2 ⟨b1 z (List.mem_cons_self ..), b3 z (List.mem_cons_self ..), b4.1, fun p hp => b5 p (List.mem_append.2 (.inl hp))⟩) h0
/-- A valid list. -/
structure Vld (l : List Zo) : Prop where
  len : l.length ≤ 64
  ok : ∀ z ∈ l, OkZ z
  nd : (nms l).Nodup
  once : (fsts l).Nodup
theorem ck_vld {l : List Zo} : ckZ l = 0 ↔ Vld l := by
  unfold ckZ ixL
  by_cases h : 64 < l.length
  · rw [if_pos h]
    constructor
    · intro h; cases h
    · intro h2; have := h2.len; omega
  · rw [if_neg h]
    have := ixF_zero (t := l) (seen := [])
    rw [pairs_nil] at this
    rw [this]
    constructor
    · rintro ⟨a, b, -, c, -⟩; exact ⟨by omega, a, b, c⟩
    · intro h2; exact ⟨h2.ok, h2.nd, by simp, h2.once, by simp [fsts, pairs]⟩
theorem once_of : ∀ {L : List (Wd × Wd)}, (L.map (·.1)).Nodup → Once L
  | [], _ => fun p a b h => by simp at h
  | (q, c) :: L, h => fun p a b ha hb => by
    obtain ⟨h1, h2⟩ := List.nodup_cons.1 (show (q :: L.map (·.1)).Nodup from h)
    have h3 : ∀ x, (q, x) ∉ L := fun x hx => h1 (List.mem_map.2 ⟨(q, x), hx, rfl⟩)
    have h4 : ∀ x, (p, x) ∈ (q, c) :: L → (p = q ∧ x = c) ∨ (p, x) ∈ L := fun x hx => by
      rcases List.mem_cons.1 hx with e | e
      · injection e with e1 e2; exact .inl ⟨e1, e2⟩
      · exact .inr e
    rcases h4 a ha with ⟨e1, e2⟩ | k1
    · rcases h4 b hb with ⟨e3, e4⟩ | k2
      · rw [e2, e4]
      · exact absurd (e1 ▸ k2) (h3 b)
    · rcases h4 b hb with ⟨e3, e4⟩ | k2
      · exact absurd (e3 ▸ k1) (h3 a)
      · exact once_of h2 p a b k1 k2
theorem Vld.uniq {l : List Zo} (h : Vld l) : Once (pairs l) := once_of h.once
theorem num_ne {p : Wd} (h : numB p = true) : p ≠ [] := by rintro rfl; exact absurd h (by decide)
theorem Vld.full {l : List Zo} (h : Vld l) : Full (pairs l) := fun p m hm => by
  obtain ⟨z, hz, -, hp⟩ := mem_pairs.1 hm
  exact num_ne ((h.ok z hz).2.2.2 p hp)
theorem Vld.named {l : List Zo} (h : Vld l) : Named (pairs l) := fun p m hm => by
  obtain ⟨z, hz, rfl, hp⟩ := mem_pairs.1 hm
  exact nmB_ne (h.ok z hz).1
end Go.Proofs.Ytflonakoagjmhaa.Zn
