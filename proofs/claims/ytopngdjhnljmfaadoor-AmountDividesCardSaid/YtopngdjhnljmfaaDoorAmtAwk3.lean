/- Walks: the chapter's example of a rounding, and its examples all together. -/
import Derived.Test.YtopngdjhnljmfaaDoorAmtAwk2
import Derived.Test.YtopngdjhnljmfaaDoorAmtSum
namespace Go.Proofs.YtopngdjhnljmfaaDoor
open Go.RowKit Go.Sort

theorem sig_rests : sig 2 [4000, 4000, 4000] = [0, 1, 2] := by
  unfold sig posF Sort.insertionSort
  simp [insOuter, insInner, idF, ltOf, cfF, Lib.compareInt]
theorem awRounded (w : World) : Calls Tryd.prog 28 #[.int .i64 12000] w fun e w' => e = .returned (.int .i64 1) ∧ w = w' := by
  go_enter Tryd.func28, Tryd.ntmps28
  go_wp2
  go_ret
  exact ⟨rfl, rfl⟩
theorem awFloor (w : World) : Calls Tryd.prog 29 #[.int .i64 4000] w fun e w' => e = .returned (.tuple #[.int .i64 0, .int .i64 4000]) ∧ w = w' := by
  go_enter Tryd.func29, Tryd.ntmps29
  go_wp2
  go_ret2
  exact ⟨rfl, rfl⟩
theorem awTotal (g : Nat) (w : World) (hg : g < w.heap.size) (hc : ∀ i, i < 3 → w.cell? ⟨g, i, none⟩ = some (.int .i64 4000)) :
    Calls Tryd.prog 27 #[.slice (some ⟨g, 0, none⟩) 3 3] w fun e w' => e = .returned (.tuple #[.int .i64 12000, .int .i64 0]) ∧ w = w' := by
  have hI : Ints w (some ⟨g, 0, none⟩) 3 [4000, 4000, 4000] := by
    refine ⟨rfl, by simp, fun i hi => ⟨g, 0, rfl, hg, ?_⟩⟩
    rw [Nat.zero_add, hc i hi]
    match i, hi with
    | 0, _ => rfl
    | 1, _ => rfl
    | 2, _ => rfl
  exact (total_any _ 3 3 _ w hI (by decide)).mono fun e w' ⟨he, hw⟩ => ⟨he.trans (ret_ints (by decide) (by decide)), hw⟩

set_option maxHeartbeats 4000000 in
theorem awRound (g : Nat) (w : World) (hg : g < w.heap.size) (hc : ∀ i, i < 3 → w.cell? ⟨g, i, none⟩ = some (.int .i64 4000)) :
    Calls Tryd.prog 14 #[.slice (some ⟨g, 0, none⟩) 3 3] w fun e w' => ∃ A c, e = .returned (.slice A 3 c) ∧ Ints w' A 3 [1, 0, 0] ∧ Below w.heap.size w w' := by
  obtain ⟨i0, hi0, hz0, hz1, hz2⟩ := info_parts intInfo
  have HC := Lib.hid hc
  have HW := Lib.hid (awTotal g w hg hc)
  clear hc
  go_enter Tryd.func14, Tryd.ntmps14
  go_wp2_with (first
    | (go_at_call 27; refine HW.out.mono ?_; rintro e w1 ⟨rfl, rfl⟩)
    | (go_at_call 28; refine (awRounded _).mono ?_; rintro e w1 ⟨rfl, rfl⟩)
    | (at_make; refine wpList_make_full _ rfl (.tmp 20) (.tmp 20) 22 rfl w.heap.size 3 i0 (.int .i64 0) 1 Tryd.underlying22 hi0 hz0 hz1 _ _ _ _ 3 rfl rfl (by decide) (by decide) (by rw [hz2]; decide) (by decide) (Nat.le_refl _) ?_; intro w1 hown1 hg1; have hb1 : Below w.heap.size w w1 := (Below.refl _ _).grown hg1 (Nat.le_refl _) (fun _ h => by cases h))
    | (at_make; refine wpList_make_full _ rfl (.tmp 23) (.tmp 23) 22 rfl w1.heap.size 3 i0 (.int .i64 0) 1 Tryd.underlying22 hi0 hz0 hz1 _ _ _ _ 3 rfl rfl (by decide) (by decide) (by rw [hz2]; decide) (by decide) (Nat.le_refl _) ?_; intro w2 hown2 hg2; have hb2 : Below w1.heap.size w1 w2 := (Below.refl _ _).grown hg2 (Nat.le_refl _) (fun _ h => by cases h)))
  have hlt1 : w.heap.size < w1.heap.size := by
    obtain ⟨_, h⟩ := hown1
    rcases h with ⟨h, _⟩ | ⟨g', _, _, h, _, hh, _⟩
    · cases h
    · cases h
      rcases Nat.lt_or_ge w.heap.size w1.heap.size with h | h
      · exact h
      · rw [Array.getElem?_eq_none h] at hh; cases hh
  have hown1' := ownsRow_below hown1 hb2
  have hm0 : (madeCells (Value.int IntKind.i64 0).cells (3 * 1)).toList = row3 0 0 := by rw [made_ints]; rfl
  have hm1 : (madeCells (Value.int IntKind.i64 0).cells (3 * 1)).toList = row3 4000 0 := by rw [made_ints]; rfl
  rw [hm0] at hown1'
  rw [hm1] at hown2
  have hb12 : Below w.heap.size w w2 := hb1.trans (hb2.mono hb1.size)
  obtain ⟨q, hq⟩ : ∃ q, w1.heap.size = q := ⟨_, rfl⟩
  rw [hq] at hown2 hlt1 ⊢
  clear hown1 hg1 hg2 hb1 hb2 hm0 hm1 hq
  go_loopw [5, 27] (fun l i wr => ∃ k : Nat, k ≤ 3 ∧ i = .int .i64 k ∧ l = .int .i64 1 ∧ wr.ownsRow w.heap.size 3 1 (.slice (some ⟨w.heap.size, 0, none⟩) 3 3) 3 (row3 0 k) ∧
      wr.ownsRow q 3 1 (.slice (some ⟨q, 0, none⟩) 3 3) 3 (row3 4000 k) ∧ Below w.heap.size w wr) (fun _ i _ => 3 - (intOf i).toNat)
  case atStart => exact ⟨0, by omega, rfl, rfl, hown1', hown2, hb12⟩
  case round =>
    obtain ⟨k, hk, rfl, rfl, ho1, ho2, hb⟩ := hrel
    clear hown1' hown2 hb12
    by_cases hlt : k < 3
    · have hwc := (hb.cell (p := ⟨g, k, none⟩) hg).trans (HC.out k hlt)
      have hp := (World.ownsRow.cellAt ho1 k (by omega)).trans (row3_at 0 k hlt)
      have hpf := World.ownsRow.frozenAt ho1 k
      have hr := (World.ownsRow.cellAt ho2 k (by omega)).trans (row3_at 4000 k hlt)
      have hrf := World.ownsRow.frozenAt ho2 k
      have hne : (⟨q, k, none⟩ : Addr) ≠ ⟨w.heap.size, k, none⟩ := fun h => by
        have := congrArg Addr.block h
        simp at this; omega
      have R1 : ((wr.setCell ⟨w.heap.size, k, none⟩ (.int .i64 0)).setCell ⟨q, k, none⟩ (.int .i64 4000)).ownsRow w.heap.size 3 1 (.slice (some ⟨w.heap.size, 0, none⟩) 3 3) 3 (row3 0 (k + 1)) := by
        have := (World.ownsRow.stored ho1 k (.int .i64 0)).1
        rw [row3_set _ _ hlt] at this
        exact ownsRow_setCell_other this (by simp [Value.ownBlock]; omega) _
      have R2 : ((wr.setCell ⟨w.heap.size, k, none⟩ (.int .i64 0)).setCell ⟨q, k, none⟩ (.int .i64 4000)).ownsRow q 3 1 (.slice (some ⟨q, 0, none⟩) 3 3) 3 (row3 4000 (k + 1)) := by
        have h1 := ownsRow_setCell_other ho2 (a := ⟨w.heap.size, k, none⟩) (by simp [Value.ownBlock]; omega) (.int .i64 0)
        have := (World.ownsRow.stored h1 k (.int .i64 4000)).1
        rw [row3_set _ _ hlt] at this
        exact this
      have H3 := Lib.hid hb
      have hlt1' := hlt1
      have hr' : (wr.setCell ⟨w.heap.size, k, none⟩ (.int .i64 0)).cell? ⟨q, k, none⟩ = some (.int .i64 0) := by rw [World.cell?_setCell_other _ _ _ _ (fun h => hne h.symm)]; exact hr
      have H1 := Lib.hid R1; have H2 := Lib.hid R2
      clear R1 R2 ho1 ho2 hb hne
      have hp1 : ((wr.setCell ⟨w.heap.size, k, none⟩ (.int .i64 0)).setCell ⟨q, k, none⟩ (.int .i64 4000)).cell? ⟨w.heap.size, k, none⟩ = some (.int .i64 0) := by
        rw [World.ownsRow.cellAt H1.out k (by omega)]
        match k, hlt with
        | 0, _ => rfl
        | 1, _ => rfl
        | 2, _ => rfl
      go_wp2_with (go_at_call 29; refine (awFloor _).mono ?_; rintro e w1 ⟨rfl, rfl⟩)
      go_roundw
      case rel => exact ⟨k + 1, by omega, by go_num, rfl, H1.out, H2.out, (H3.out.setCell (Nat.le_refl _) _).setCell (by show w.heap.size ≤ q; omega) _⟩
      case measure => simp [intOf]; omega
    · obtain rfl : k = 3 := by omega
      have hz : ∀ i, i < 2 + 1 → wr.cell? ⟨q, 0 + i, none⟩ = some (.int .i64 ([4000, 4000, 4000][i]?.getD 0)) := by
        intro i hi
        rw [Nat.zero_add, World.ownsRow.cellAt ho2 i (by omega)]
        match i, hi with
        | 0, _ => rfl
        | 1, _ => rfl
        | 2, _ => rfl
      have hql : q < wr.heap.size := by
        obtain ⟨_, h⟩ := ho2
        rcases h with ⟨h, _⟩ | ⟨g', _, _, h, _, hh, _⟩
        · cases h
        · cases h
          rcases Nat.lt_or_ge q wr.heap.size with h | h
          · exact h
          · rw [Array.getElem?_eq_none h] at hh; cases hh
      have hA := addOnes_any 2 1 w.heap.size w.heap.size 3 q 0 3 [0, 0, 0] [4000, 4000, 4000] wr (by omega) (by omega) (Nat.le_refl _) (by omega) hql (by simp) rfl ho1 hz
      rw [sig_rests] at hA
      have HA := Lib.hid hA
      clear hA hz ho1 ho2
      have hsz := hb.size
      go_wp2_with (go_at_call 19; refine HA.out.mono ?_; rintro e w3 ⟨rfl, hown3, hb3⟩)
      go_ret
      have h3 : w3.ownsRow w.heap.size 3 1 (.slice (some ⟨w.heap.size, 0, none⟩) 3 3) 3 (([1, 0, 0] : List Int).map (Value.int .i64)) := hown3
      have hl3 : w.heap.size < w3.heap.size := by
        obtain ⟨_, h⟩ := h3
        rcases h with ⟨h, _⟩ | ⟨g', _, _, h, _, hh, _⟩
        · cases h
        · cases h
          rcases Nat.lt_or_ge w.heap.size w3.heap.size with h | h
          · exact h
          · rw [Array.getElem?_eq_none h] at hh; cases hh
      refine ⟨some ⟨w.heap.size, 0, none⟩, 3, rfl, ⟨rfl, by simp, fun i hi => ⟨w.heap.size, 0, rfl, hl3, ?_⟩⟩, hb.trans hb3⟩
      rw [Nat.zero_add, World.ownsRow.cellAt h3 i (by omega)]
      match i, hi with
      | 0, _ => rfl
      | 1, _ => rfl
      | 2, _ => rfl
end Go.Proofs.YtopngdjhnljmfaaDoor
