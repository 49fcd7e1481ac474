/- Walks: the chapter's example of a division. -/
import Derived.Test.YtopngdjhnljmfaaDoorAmtAwk1
import Derived.Test.YtopngdjhnljmfaaDoorAmtAddO
namespace Go.Proofs.YtopngdjhnljmfaaDoor
open Go.RowKit Go.Sort

theorem sig_ones : sig 2 [1, 1, 1] = [0, 1, 2] := by
  unfold sig posF Sort.insertionSort
  simp [insOuter, insInner, idF, ltOf, cfF, Lib.compareInt]

set_option maxHeartbeats 1000000 in
theorem awWeight (g : Nat) (w : World) (hc : ∀ i, i < 3 → w.cell? ⟨g, i, none⟩ = some (.int .i64 1)) :
    Calls Tryd.prog 15 #[.int .i64 100, .slice (some ⟨g, 0, none⟩) 3 3] w fun e w' => e = .returned (.tuple #[.int .u64 3, .int .i64 0]) ∧ w = w' := by
  have hv : okA 100 = true := rfl
  have hu : okU 1 = true := rfl
  have HC := Lib.hid hc; clear hc
  go_enter Tryd.func15, Tryd.ntmps15
  go_wp2_with (go_at_call 21; refine (valid_any _ _).mono ?_; rintro e w1 ⟨rfl, rfl⟩)
  go_loop [6, 17] (fun s i => ∃ k : Nat, k ≤ 3 ∧ i = .int .i64 k ∧ s = .int .i64 k) (fun _ i => 3 - (intOf i).toNat)
  case atStart => exact ⟨0, by omega, rfl, rfl⟩
  case round =>
    obtain ⟨k, hk, rfl, rfl⟩ := hrel
    by_cases hlt : k < 3
    · have h1 := HC.out k hlt
      go_wp2_with (go_at_call 22; refine (validUnits_any _ _).mono ?_; rintro e w1 ⟨rfl, rfl⟩)
      go_round
      case rel => exact ⟨k + 1, by omega, by go_num, by go_num⟩
      case measure => simp [intOf]; omega
    · obtain rfl : k = 3 := by omega
      go_wp2
      go_ret2
      exact ⟨rfl, rfl⟩

/-- k times x, then zeros: a row of three. -/
def row3 (x : Int) (k : Nat) : List Value := (List.replicate k x ++ List.replicate (3 - k) 0).map (Value.int .i64)
theorem row3_at (x : Int) (k : Nat) (h : k < 3) : (row3 x k)[k]? = some (Value.int .i64 0) := by
  unfold row3
  rw [List.getElem?_map, List.getElem?_append_right (by simp)]
  simp [List.getElem?_replicate]; omega
theorem row3_set (x : Int) (k : Nat) (h : k < 3) : (row3 x k).set k (Value.int .i64 x) = row3 x (k + 1) := by
  match k, h with
  | 0, _ => rfl
  | 1, _ => rfl
  | 2, _ => rfl

set_option maxHeartbeats 4000000 in
theorem awSplit (g : Nat) (w : World) (hg : g < w.heap.size) (hc : ∀ i, i < 3 → w.cell? ⟨g, i, none⟩ = some (.int .i64 1)) :
    Calls Tryd.prog 6 #[.int .i64 100, .slice (some ⟨g, 0, none⟩) 3 3] w fun e w' => ∃ A c, e = .returned (.tuple #[.slice A 3 c, .int .i64 0]) ∧ Ints w' A 3 [34, 33, 33] ∧ Below w.heap.size w w' := by
  obtain ⟨i0, hi0, hz0, hz1, hz2⟩ := info_parts intInfo
  have HC := Lib.hid hc
  have hW := fun (wx : World) (h : ∀ i, i < 3 → wx.cell? ⟨g, i, none⟩ = some (.int .i64 1)) => awWeight g wx h
  have HW := Lib.hid (hW w hc)
  clear hW hc
  have hm : mag 100 = 100 := rfl
  have hM := fun wx => mulLit 100 1 0 100 (by decide) (by decide) (by decide) (by decide) wx
  have HM := Lib.hid hM; clear hM
  have hD := fun wx => div_zero 100 3 (by decide) (by decide) (by decide) (by decide) wx
  have HD := Lib.hid hD; clear hD
  go_enter Tryd.func6, Tryd.ntmps6
  go_wp2_with (first
    | (go_at_call 15; refine HW.out.mono ?_; rintro e w1 ⟨rfl, rfl⟩)
    | (go_at_call 16; refine (magnitude_any _ _ (by decide) (by decide)).mono ?_; rintro e w1 ⟨rfl, rfl⟩)
    | (at_make; refine wpList_make_full _ rfl (.tmp 30) (.tmp 30) 22 rfl w.heap.size 3 i0 (.int .i64 0) 1 Tryd.underlying22 hi0 hz0 hz1 _ _ _ _ 3 rfl rfl (by decide) (by decide) (by rw [hz2]; decide) (by decide) (Nat.le_refl _) ?_; intro w1 hown1 hg1; have hb1 : Below w.heap.size w w1 := (Below.refl _ _).grown hg1 (Nat.le_refl _) (fun _ h => by cases h))
    | (at_make; refine wpList_make_full _ rfl (.tmp 33) (.tmp 33) 22 rfl w1.heap.size 3 i0 (.int .i64 0) 1 Tryd.underlying22 hi0 hz0 hz1 _ _ _ _ 3 rfl rfl (by decide) (by decide) (by rw [hz2]; decide) (by decide) (Nat.le_refl _) ?_; intro w2 hown2 hg2; have hb2 : Below w1.heap.size w1 w2 := (Below.refl _ _).grown hg2 (Nat.le_refl _) (fun _ h => by cases h)))
  have hlt1 : w.heap.size < w1.heap.size := by
    obtain ⟨_, h⟩ := hown1
    rcases h with ⟨h, _⟩ | ⟨g', _, _, h, _, hh, _⟩
    · cases h
    · cases h
      rcases Nat.lt_or_ge w.heap.size w1.heap.size with h | h
      · exact h
      · rw [Array.getElem?_eq_none h] at hh; cases hh
  have hown1' := ownsRow_below hown1 hb2
  have hm0 : (madeCells (Value.int IntKind.i64 0).cells (3 * 1)).toList = row3 33 0 := by rw [made_ints]; rfl
  have hm1 : (madeCells (Value.int IntKind.i64 0).cells (3 * 1)).toList = row3 1 0 := by rw [made_ints]; rfl
  rw [hm0] at hown1'
  rw [hm1] at hown2
  have hb12 : Below w.heap.size w w2 := hb1.trans (hb2.mono hb1.size)
  obtain ⟨q, hq⟩ : ∃ q, w1.heap.size = q := ⟨_, rfl⟩
  rw [hq] at hown2 hlt1 ⊢
  clear hown1 hg1 hg2 hb1 hb2 hm0 hm1 hq hm
  go_loopw [8, 37] (fun l i wr => ∃ k : Nat, k ≤ 3 ∧ i = .int .i64 k ∧ l = .int .u64 (100 - 33 * (k : Int)) ∧ wr.ownsRow w.heap.size 3 1 (.slice (some ⟨w.heap.size, 0, none⟩) 3 3) 3 (row3 33 k) ∧
      wr.ownsRow q 3 1 (.slice (some ⟨q, 0, none⟩) 3 3) 3 (row3 1 k) ∧ Below w.heap.size w wr) (fun _ i _ => 3 - (intOf i).toNat)
  case atStart => exact ⟨0, by omega, rfl, rfl, hown1', hown2, hb12⟩
  case round =>
    obtain ⟨k, hk, rfl, rfl, ho1, ho2, hb⟩ := hrel
    clear hown1' hown2 hb12
    by_cases hlt : k < 3
    · have hwc := (hb.cell (p := ⟨g, k, none⟩) hg).trans (HC.out k hlt)
      have hp := (World.ownsRow.cellAt ho1 k (by omega)).trans (row3_at 33 k hlt)
      have hpf := World.ownsRow.frozenAt ho1 k
      have hr := (World.ownsRow.cellAt ho2 k (by omega)).trans (row3_at 1 k hlt)
      have hrf := World.ownsRow.frozenAt ho2 k
      have hne : (⟨q, k, none⟩ : Addr) ≠ ⟨w.heap.size, k, none⟩ := fun h => by
        have := congrArg Addr.block h
        simp at this; omega
      have R1 : ((wr.setCell ⟨w.heap.size, k, none⟩ (.int .i64 33)).setCell ⟨q, k, none⟩ (.int .i64 1)).ownsRow w.heap.size 3 1 (.slice (some ⟨w.heap.size, 0, none⟩) 3 3) 3 (row3 33 (k + 1)) := by
        have := (World.ownsRow.stored ho1 k (.int .i64 33)).1
        rw [row3_set _ _ hlt] at this
        exact ownsRow_setCell_other this (by simp [Value.ownBlock]; omega) _
      have R2 : ((wr.setCell ⟨w.heap.size, k, none⟩ (.int .i64 33)).setCell ⟨q, k, none⟩ (.int .i64 1)).ownsRow q 3 1 (.slice (some ⟨q, 0, none⟩) 3 3) 3 (row3 1 (k + 1)) := by
        have h1 := ownsRow_setCell_other ho2 (a := ⟨w.heap.size, k, none⟩) (by simp [Value.ownBlock]; omega) (.int .i64 33)
        have := (World.ownsRow.stored h1 k (.int .i64 1)).1
        rw [row3_set _ _ hlt] at this
        exact this
      have H3 := Lib.hid hb
      have hlt1' := hlt1
      have hr' : (wr.setCell ⟨w.heap.size, k, none⟩ (.int .i64 33)).cell? ⟨q, k, none⟩ = some (.int .i64 0) := by rw [World.cell?_setCell_other _ _ _ _ (fun h => hne h.symm)]; exact hr
      have H1 := Lib.hid R1; have H2 := Lib.hid R2
      clear R1 R2 ho1 ho2 hb hne
      have hm : mag 100 = 100 := rfl
      go_wp2_with (first
        | (go_at_call 16; refine (magnitude_any _ _ (by decide) (by decide)).mono ?_; rintro e w1 ⟨rfl, rfl⟩)
        | (go_at_call 17; refine (HM.out _).mono ?_; rintro e w1 ⟨rfl, rfl⟩)
        | (go_at_call 18; refine (HD.out _).mono ?_; rintro e w1 ⟨rfl, n, rfl⟩))
      go_roundw
      case rel => exact ⟨k + 1, by omega, by go_num, by go_num, H1.out, H2.out, ((below_drewN H3.out n).setCell (Nat.le_refl _) _).setCell (by show w.heap.size ≤ q; omega) _⟩
      case measure => simp [intOf]; omega
    · obtain rfl : k = 3 := by omega
      have hz : ∀ i, i < 2 + 1 → wr.cell? ⟨q, 0 + i, none⟩ = some (.int .i64 ([1, 1, 1][i]?.getD 0)) := by
        intro i hi
        rw [Nat.zero_add, World.ownsRow.cellAt ho2 i (by omega)]
        match i, hi with
        | 0, _ => rfl
        | 1, _ => rfl
        | 2, _ => rfl
      have hql : q < wr.heap.size := by
        obtain ⟨_, h⟩ := ho2
        rcases h with ⟨h, _⟩ | ⟨g', _, _, h, _, hh, _⟩
        · cases h
        · cases h
          rcases Nat.lt_or_ge q wr.heap.size with h | h
          · exact h
          · rw [Array.getElem?_eq_none h] at hh; cases hh
      have hA := addOnes_any 2 1 w.heap.size w.heap.size 3 q 0 3 [33, 33, 33] [1, 1, 1] wr (by omega) (by omega) (Nat.le_refl _) (by omega) hql (by simp) rfl ho1 hz
      rw [sig_ones] at hA
      have HA := Lib.hid hA
      clear hA hz ho1 ho2
      have hsz := hb.size
      go_wp2_with (go_at_call 19; refine HA.out.mono ?_; rintro e w3 ⟨rfl, hown3, hb3⟩)
      go_ret2
      have h3 : w3.ownsRow w.heap.size 3 1 (.slice (some ⟨w.heap.size, 0, none⟩) 3 3) 3 (([34, 33, 33] : List Int).map (Value.int .i64)) := hown3
      have hl3 : w.heap.size < w3.heap.size := by
        obtain ⟨_, h⟩ := h3
        rcases h with ⟨h, _⟩ | ⟨g', _, _, h, _, hh, _⟩
        · cases h
        · cases h
          rcases Nat.lt_or_ge w.heap.size w3.heap.size with h | h
          · exact h
          · rw [Array.getElem?_eq_none h] at hh; cases hh
      refine ⟨some ⟨w.heap.size, 0, none⟩, 3, rfl, ⟨rfl, by simp, fun i hi => ⟨w.heap.size, 0, rfl, hl3, ?_⟩⟩, hb.trans hb3⟩
      rw [Nat.zero_add, World.ownsRow.cellAt h3 i (by omega)]
      match i, hi with
      | 0, _ => rfl
      | 1, _ => rfl
      | 2, _ => rfl
end Go.Proofs.YtopngdjhnljmfaaDoor
