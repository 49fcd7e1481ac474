/- Walk: the closure of dedup.Filter. -/
import Derived.Test.YtgobbeommjjlfaaDdF0
import Derived.Test.YtgobbeommjjlfaaDdJ
import Derived.Test.YtgobbeommjjlfaaDdH
import Derived.Deep.RegionHeld3
namespace Go.Proofs.Ytgobbeommjjlfaa
open Go.RowKit

set_option maxRecDepth 100000 in
set_option maxHeartbeats 4000000 in
theorem filter1_no (r : Rc) (l : List Rg) (hl : Can l) (v : Value) (n base q : Nat) (w : World) (hQ : Va.Blk w q 22 #[v]) (hown : w.ownsRow base 44 3 v n (rcl l)) (hn : l.length = n) (h6 : n ≤ 900000) (hr : rfs l r.s0 r.s1 ≠ 0) :
    Calls Try.prog 35 #[.agg r.cells, .pointer (some ⟨q, 0, none⟩)] w fun e w' => e = .returned (.int .i64 (rfs l r.s0 r.s1)) ∧ Below w.heap.size w w' := by
  have hb0 : Below w.heap.size w (w.alloc (.cells r.cells 40)) := (Below.refl _ w).alloc (Nat.le_refl _) _
  obtain ⟨A, c, rfl, hc, hm, hA⟩ := rg_own hown hn
  have HRF := Lib.hid (fun W (h : Below w.heap.size w W) => refusal_any A n c l r.s0 r.s1 W hl (by omega) (hA.below h) hn hc hm)
  have HB : Hid (RcB (w.alloc (.cells r.cells 40)) w.heap.size r) := Lib.hid (heap_alloc_new w _)
  have HQ := Lib.hid (hQ.below hb0 hQ.lt)
  have HB0 := Lib.hid hb0
  obtain ⟨x, hx⟩ : ∃ x, rfs l r.s0 r.s1 = x := ⟨_, rfl⟩
  rw [hx] at HRF hr ⊢
  have hxq : (x == 0) = false := by simp [hr]
  obtain ⟨s0, s1, s2, sa, sb, s5, s6, s7, s8, b9, s10, b11⟩ := r
  obtain ⟨L, hL⟩ : ∃ L, w.alloc (.cells #[.int .i64 s0, .int .i64 s1, .int .i64 s2, .string sa, .string sb, .int .i64 s5, .int .i64 s6, .int .i64 s7, .int .i64 s8, .bool b9, .int .i64 s10, .bool b11] 40) = L := ⟨_, rfl⟩
  unfold Rc.cells at HB0 HB HQ ⊢
  simp only at HB0 HB HQ HRF ⊢
  rw [hL] at HB0 HB HQ
  obtain ⟨g, hg⟩ : ∃ g, w.heap.size = g := ⟨_, rfl⟩
  rw [hg] at HB
  obtain ⟨c0, c1, c2, c3, c4, c5, c6, c7, c8, c9, c10, c11⟩ := HB.out.cells
  simp only at c0 c1 c2 c3 c4 c5 c6 c7 c8 c9 c10 c11
  have q0 := HQ.out.one
  clear hown hQ hb0 hx hr hA hc hm hn hl
  go_enter Try.func35, Try.ntmps35
  go_wp2_with (go_at_call 31; (with_reducible refine (HRF.out _ HB0.out).mono ?_); rintro e w1 ⟨rfl, hb1⟩; have HB1 := Lib.hid (HB0.out.trans (hb1.mono HB0.out.size)); clear hb1)
  go_ret
  exact ⟨rfl, HB1.out⟩
theorem chg_set (w : World) (q : Nat) (u : Value) : Va.Chg (fun b => b = q) w (w.setCell ⟨q, 0, none⟩ u) :=
  ⟨rfl, rfl, rfl, by simp [World.setCell], fun k _ hk => Below.heap_setCell w ⟨q, 0, none⟩ u k hk⟩
/-- What the closure leaves behind when it takes a record. -/
def FltOut (base q : Nat) (row : Option Nat) (L : List Rg) (w w' : World) : Prop :=
  ∃ v', Va.Blk w' q 22 #[v'] ∧ w'.ownsRow base 44 3 v' L.length (rcl L) ∧ (∀ x, v'.ownBlock = some x → row = some x ∨ w.heap.size ≤ x) ∧ Va.Chg (fun b => b = q ∨ row = some b) w w'
set_option maxRecDepth 100000 in
set_option maxHeartbeats 4000000 in
theorem filter1_yes (r : Rc) (l : List Rg) (hl : Can l) (v : Value) (n base q : Nat) (w : World) (hQ : Va.Blk w q 22 #[v]) (hown : w.ownsRow base 44 3 v n (rcl l)) (hbase : base ≤ w.heap.size) (hvq : ∀ x, v.ownBlock = some x → x ≠ q) (hn : l.length = n) (h6 : n ≤ 900000) (hr : rfs l r.s0 r.s1 = 0) :
    Calls Try.prog 35 #[.agg r.cells, .pointer (some ⟨q, 0, none⟩)] w fun e w' => e = .returned (.int .i64 0) ∧ FltOut base q v.ownBlock (adL r.s0 r.s1 l) w w' := by
  have hb0 : Below w.heap.size w (w.alloc (.cells r.cells 40)) := (Below.refl _ w).alloc (Nat.le_refl _) _
  have hown0 := hown
  have hql := hQ.lt
  obtain ⟨i1, i2⟩ := rfs_zero.1 hr
  obtain ⟨row, hrow⟩ : ∃ row, v.ownBlock = row := ⟨_, rfl⟩
  have hrl : ∀ x, row = some x → x < w.heap.size := fun x hx => (World.ownsRow.lt hown x (hrow.trans hx)).2
  obtain ⟨A, c, rfl, hc, hm, hA⟩ := rg_own hown hn
  have HRF := Lib.hid (fun W (h : Below w.heap.size w W) => refusal_any A n c l r.s0 r.s1 W hl (by omega) (hA.below h) hn hc hm)
  have HIN := Lib.hid (fun W (h : Below w.heap.size w W) => insert_any base (.slice A n c) n l r.s0 r.s1 W hl i1 i2 (Va.own_keep hown0 h) hn (by omega) (Nat.le_trans hbase h.size))
  have HB : Hid (RcB (w.alloc (.cells r.cells 40)) w.heap.size r) := Lib.hid (heap_alloc_new w _)
  have HQ := Lib.hid (hQ.below hb0 hQ.lt)
  have HB0 := Lib.hid hb0
  have HRW := Lib.hid hrow; have HRL := Lib.hid hrl; have HVQ : Hid (∀ x, row = some x → x ≠ q) := Lib.hid (fun x hx => hvq x (hrow.trans hx))
  rw [hrow] at HIN ⊢
  rw [hr] at HRF
  obtain ⟨K, hK⟩ : ∃ K, adL r.s0 r.s1 l = K := ⟨_, rfl⟩
  rw [hK] at HIN ⊢
  obtain ⟨s0, s1, s2, sa, sb, s5, s6, s7, s8, b9, s10, b11⟩ := r
  obtain ⟨L, hL⟩ : ∃ L, w.alloc (.cells #[.int .i64 s0, .int .i64 s1, .int .i64 s2, .string sa, .string sb, .int .i64 s5, .int .i64 s6, .int .i64 s7, .int .i64 s8, .bool b9, .int .i64 s10, .bool b11] 40) = L := ⟨_, rfl⟩
  unfold Rc.cells at HB0 HB HQ ⊢
  simp only at HB0 HB HQ HRF HIN ⊢
  rw [hL] at HB0 HB HQ
  have HQL := Lib.hid hql
  obtain ⟨g, hg⟩ : ∃ g, w.heap.size = g := ⟨_, rfl⟩
  have HG := Lib.hid hg
  rw [hg] at HB
  obtain ⟨c0, c1, c2, c3, c4, c5, c6, c7, c8, c9, c10, c11⟩ := HB.out.cells
  simp only at c0 c1 c2 c3 c4 c5 c6 c7 c8 c9 c10 c11
  have q0 := HQ.out.one
  clear hown hQ hb0 hr hA hc hm hn hl hrow hrl hvq hown0 hbase i1 i2 hK hql
  go_enter Try.func35, Try.ntmps35
  go_wp2_with (first
    | (go_at_call 31; (with_reducible refine (HRF.out _ HB0.out).mono ?_); rintro e w1 ⟨rfl, hb1⟩; have HB1 := Lib.hid (HB0.out.trans (hb1.mono HB0.out.size)); have HQ1 := Lib.hid (HQ.out.below hb1 HQ.out.lt); have HX1 := Lib.hid (HB.out.below hb1 (Va.Blk.lt HB.out)); clear hb1 c0 c1 c2 c3 c4 c5 c6 c7 c8 c9 c10 c11 q0; obtain ⟨c0, c1, c2, c3, c4, c5, c6, c7, c8, c9, c10, c11⟩ := HX1.out.cells; simp only at c0 c1 c2 c3 c4 c5 c6 c7 c8 c9 c10 c11; have q0 := HQ1.out.one)
    | (go_at_call 32; (with_reducible refine (HIN.out _ HB1.out).mono ?_); rintro e w2 ⟨v2, rfl, ho2, hg2, hx2⟩; obtain ⟨A2, m2, rfl, -, -, -⟩ := rg_own ho2 rfl; have HO2 := Lib.hid ho2; have HG2 := Lib.hid hg2; have HV2 := Lib.hid hx2; have HQ2 := Lib.hid (HQ1.out.grown hg2 (fun e => HVQ.out q e.symm rfl)); clear ho2 hg2 hx2 c0 c1 c2 c3 c4 c5 c6 c7 c8 c9 c10 c11 q0; have q0 := HQ2.out.one; have fz := HQ2.out.frozen 0))
  go_ret
  have hv2 : ∀ x, (Value.slice A2 K.length m2).ownBlock = some x → row = some x ∨ w.heap.size ≤ x := fun x hx => by
    rcases HV2.out x hx with h | h
    · exact .inl h
    · exact .inr (Nat.le_trans HB1.out.size h)
  refine ⟨rfl, _, HQ2.out.set_ 0 _, Va.own_chg HO2.out (chg_set _ q _) (fun x hx hq => ?_), hv2, ?_⟩
  · subst hq
    rcases hv2 x hx with h | h
    · exact HVQ.out x h rfl
    · exact absurd HQL.out (by omega)
  · have h1 : Va.Chg (fun b => b = q ∨ row = some b) w w1 := Va.chg_below HB1.out
    have h2 : Va.Chg (fun b => row = some b) w1 w2 := ⟨HG2.out.os, HG2.out.tape, HG2.out.output, HG2.out.size, fun k hk hne => HG2.out.block k hk (fun e => hne e.symm)⟩
    exact (h1.trans h2 (fun _ _ h => .inr h)).trans (chg_set _ q _) (fun _ _ h => .inl h)
end Go.Proofs.Ytgobbeommjjlfaa
