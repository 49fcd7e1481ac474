/- Walks: copies; all frames. -/
import Derived.Test.YtobkafkknbdacaaDoorRows
import Derived.Test.YtobkafkknbdacaaDoorFrC
import Derived.Deep.AppendLies
namespace Go.Proofs.YtobkafkknbdacaaDoor
open Go.RowKit

set_option maxHeartbeats 2000000 in
theorem dup_any {A : Option Addr} {n c : Nat} {l : List Int} {w : World} (hA : Byt w A n c l) (hn : n ≤ 1000000000) :
    Calls Tryd.prog 46 #[.slice A n c] w fun e w' => ∃ v, e = .returned v ∧ Own w' w.heap.size v l ∧ Below w.heap.size w w' := by
  obtain ⟨i0, hi0, hz0, hz1, hz2⟩ := info_parts byteInfo
  have hl := hA.len
  have hcl : (C8 l).length = n := by rw [C8_len, hl]
  have hin : (Tryd.prog.info? 5).map (·.size) = some 1 := by rw [hi0]; simp [hz1]
  have HI := Lib.hid hin; have HCL := Lib.hid hcl; have HL := Lib.hid hl
  have HA := Lib.hid hA; clear hA hin hcl hl
  go_enter Tryd.func46, Tryd.ntmps46
  go_wp2_with (first
    | (at_make; refine wpList_make_full _ rfl _ _ 37 rfl w.heap.size 5 i0 (.int .u8 0) 1 Tryd.underlying37 hi0 hz0 hz1 _ _ _ _ n rfl rfl rfl rfl (by rw [hz2]; omega) (by unfold maxLen; omega) (Nat.le_refl _) ?_; intro w1 hown0 hg0; have hb1 : Below w.heap.size w w1 := ((Below.refl _ _).grown hg0 (Nat.le_refl _) (fun g hg' => by cases hg')); have HF := Lib.hid (own_full hown0); have HB1 := Lib.hid hb1; clear hown0 hg0 hb1)
    | (refine wpList_copy_splice rfl (.tmp 7) (.tmp 8) 37 37 rfl 5 Tryd.underlying37 HI.out _ _ _ _ _ _ rfl rfl _ 0 _ 5 HF.out.2.1 (C8 l) (by rw [HCL.out]; exact (Nat.min_self n).symm) (fun hp => ⟨rfl, (HA.out.below HB1.out).src hp⟩) (by rw [HCL.out]; simp [madeCells]) (C8_one l) w.heap.size w HB1.out HF.out.1 ?_; intro w2 hg2 hb2))
  go_ret
  refine ⟨_, rfl, ⟨?_, HA.out.ran⟩, hb2⟩
  rw [HL.out]
  refine own_of HF.out.1 ?_ HF.out.2.2 HCL.out
  have h2 := hg2.out
  rw [splice_all (by rw [HCL.out]; simp [madeCells])] at h2
  exact h2

theorem sliceInfo : (Tryd.prog.info? 37).map (fun i => (i.zero, i.size, i.bytes)) = some (some (.slice none 0 0), 1, 24) := by kernel_rfl
/-- All frames: what is found, and what remains. -/
def allF : Nat → List Int → List (List Int) × List Int
  | 0, b => ([], b)
  | k + 1, b => if (cutR b).2.2 = 0 then ((cutR b).1 :: (allF k (cutR b).2.1).1, (allF k (cutR b).2.1).2) else ([], b)
def allR (b : List Int) : List (List Int) × List Int := allF (b.length + 1) b
theorem cutR_len {b : List Int} (h : (cutR b).2.2 = 0) : (cutR b).2.1.length < b.length := by
  unfold cutR at *
  split
  · rename_i h0
    rw [if_pos h0] at h
    obtain ⟨t1, t2, t3⟩ := took_le (l := b) h0
    split
    · rename_i h1; rw [if_pos h1] at h; cases h
    · rename_i h1; rw [if_neg h1] at h
      split
      · rename_i h2; rw [if_pos h2] at h; cases h
      · rename_i h2; rw [if_neg h2] at h
        split
        · rename_i h3; rw [if_pos h3] at h; cases h
        · rename_i h3; rw [if_neg h3] at h
          split
          · rename_i h4
            simp only [t1, List.length_drop]
            rw [t1, List.length_drop] at h3
            omega
          · rename_i h4; rw [if_neg h4] at h; cases h
  · rename_i h0; rw [if_neg h0] at h; exact absurd h h0
/-- The found payloads in memory: the list is the call's own, and no payload lies in the list's row. -/
def Found (w : World) (base : Nat) (v : Value) (ps : List (List Int)) : Prop :=
  ∃ vs : List Value, w.ownsRow base 37 1 v ps.length vs ∧ (∀ u ∈ vs, u.oneCell' = true) ∧ ∀ (i : Nat) (p : List Int), ps[i]? = some p → ∃ A m d, vs[i]? = some (Value.slice A m d) ∧ Byt w A m d p ∧ ∀ x, A = some x → p ≠ [] → v.ownBlock ≠ some x.block
theorem Byt.grown {w w' : World} {A : Option Addr} {n c : Nat} {l : List Int} {row : Option Nat} (h : Byt w A n c l) (hg : w.grownBy w' row) (hd : ∀ x, A = some x → l ≠ [] → row ≠ some x.block) : Byt w' A n c l := by
  obtain ⟨⟨h1, h2, h3⟩, h4, h5, h6⟩ := h
  refine ⟨⟨h1, h2, ?_⟩, h4, h5, h6⟩
  rcases h3 with h3 | ⟨x, e, h3⟩
  · exact .inl h3
  · refine .inr ⟨x, e, fun j u hu => ?_⟩
    obtain ⟨h7, h8⟩ := h3 j u hu
    have hne : l ≠ [] := by rintro rfl; simp [C8] at hu
    have hx : (x.add j).block = x.block := by unfold Addr.add; split <;> rfl
    exact ⟨Nat.lt_of_lt_of_le h7 hg.size, hg.cell h8 (by rw [hx]; exact fun e' => hd x e hne e'.symm)⟩
theorem Byt.in {w : World} {A : Option Addr} {n c : Nat} {l : List Int} (h : Byt w A n c l) : ∀ x, A = some x → l ≠ [] → x.block < w.heap.size := by
  intro x hx hne
  obtain ⟨h1, _, h3⟩ := h.has
  rcases h3 with ⟨h4, _, _⟩ | ⟨y, e, h3⟩
  · rw [h4] at hx; cases hx
  · rw [hx] at e
    obtain rfl := Option.some.inj e
    cases l with
    | nil => exact absurd rfl hne
    | cons a t => exact (h3 0 (.int .u8 a) rfl).1
theorem Own.far {w : World} {base : Nat} {A : Option Addr} {n c : Nat} {l : List Int} (h : Own w base (.slice A n c) l) : ∀ x, A = some x → l ≠ [] → base ≤ x.block ∧ x.block < w.heap.size := by
  intro x hx hne
  obtain ⟨A', c', hv, _, hg⟩ := own_form h.1
  simp only [Value.slice.injEq] at hv
  obtain ⟨rfl, _, _⟩ := hv
  obtain ⟨g, hg1, hg2, hg3, _⟩ := hg (by cases l with
    | nil => exact absurd rfl hne
    | cons a t => simp)
  rw [hx] at hg1
  obtain rfl := Option.some.inj hg1
  exact ⟨hg2, hg3⟩
theorem row_keep {w w' : World} {base e n : Nat} {v : Value} {xs : List Value} (h : w.ownsRow base e 1 v n xs) (hb : Below w.heap.size w w') : w'.ownsRow base e 1 v n xs :=
  h.kept (row := none) ⟨hb.os, hb.tape, hb.output, hb.size, fun k hk _ => hb.block k hk⟩ (by cases hv : v.ownBlock with
    | none => exact .inl rfl
    | some x => exact .inr (by simp))
theorem cutR_pay (b : List Int) : (cutR b).1.length ≤ b.length := by
  have h := numR_len (b, 0)
  simp only at h
  unfold cutR
  split
  · split
    · simp
    · split
      · simp
      · split
        · simp
        · split
          · simp only [List.length_take, List.length_drop]; omega
          · simp
  · simp
/-- One payload more. -/
theorem Found.more {wr w2 w3 : World} {base : Nat} {v : Value} {ps : List (List Int)} {p : List Int} {A : Option Addr} {m d g c : Nat} {vs : List Value}
    (hvs : wr.ownsRow base 37 1 v ps.length vs) (h1 : ∀ u ∈ vs, u.oneCell' = true) (hpay : ∀ (i : Nat) (p : List Int), ps[i]? = some p → ∃ A m d, vs[i]? = some (Value.slice A m d) ∧ Byt wr A m d p ∧ ∀ x, A = some x → p ≠ [] → v.ownBlock ≠ some x.block)
    (hb : Below wr.heap.size wr w2) (hy : Byt w2 A m d p) (hfar : ∀ x, A = some x → p ≠ [] → wr.heap.size ≤ x.block ∧ x.block < w2.heap.size)
    (o : Obj) (hown : w3.ownsRow base 37 1 (.slice (some ⟨g, 0, none⟩) (ps.length + 1) c) (ps.length + 1) (vs ++ [.slice A m d])) (hg : (w2.alloc o).grownBy w3 v.ownBlock) (hlie : v.ownBlock = some g ∨ g = w2.heap.size + 1) :
    Found w3 base (.slice (some ⟨g, 0, none⟩) (ps.length + 1) c) (ps ++ [p]) := by
  have hvl : vs.length = ps.length := by have := hvs.1; omega
  refine ⟨vs ++ [.slice A m d], by rw [List.length_append]; exact hown, ?_, ?_⟩
  · intro u hu
    rcases List.mem_append.1 hu with h | h
    · exact h1 u h
    · simp at h; subst h; rfl
  · intro i q hq
    rcases Nat.lt_or_ge i ps.length with hi | hi
    · rw [List.getElem?_append_left hi] at hq
      obtain ⟨B, k, e, g1, g2, g3⟩ := hpay i q hq
      refine ⟨B, k, e, by rw [List.getElem?_append_left (by omega)]; exact g1, ?_, ?_⟩
      · exact ((g2.below hb).below ((Below.refl _ _).alloc (Nat.le_refl _) o)).grown hg g3
      · intro x hx hne h
        have h5 := g2.in x hx hne
        have h6 := hb.size
        have h7 : g = x.block := Option.some.inj h
        rcases hlie with h8 | h8
        · exact g3 x hx hne (by rw [h8, h7])
        · omega
    · obtain rfl : i = ps.length := by
        have := (List.getElem?_eq_some_iff.1 hq).1
        rw [List.length_append] at this; simp at this; omega
      rw [List.getElem?_append_right (Nat.le_refl _), Nat.sub_self] at hq
      simp at hq
      subst hq
      refine ⟨A, m, d, by rw [List.getElem?_append_right (by omega), hvl]; simp, ?_, ?_⟩
      · exact (hy.below ((Below.refl _ _).alloc (Nat.le_refl _) o)).grown hg (fun x hx hne h => by
          have h5 := (hfar x hx hne).1
          have h6 := (hvs.lt _ h).2; omega)
      · intro x hx hne h
        have h5 := hfar x hx hne
        have h7 : g = x.block := Option.some.inj h
        rcases hlie with h8 | h8
        · have h6 := (hvs.lt _ h8).2; omega
        · omega
/-- What All gives. -/
def AllP (l : List Int) (w : World) (e : Ending) (w' : World) : Prop :=
  ∃ v k, e = .returned (.tuple #[v, .int .i64 k]) ∧ k = (l.length : Int) - ((allR l).2.length : Int) ∧ Found w' w.heap.size v (allR l).1 ∧ Below w.heap.size w w'

def lenOf : Value → Nat | .slice _ m _ => m | _ => 0
end Go.Proofs.YtobkafkknbdacaaDoor
