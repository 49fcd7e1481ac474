/- Walks: Text and Numbers. -/
import Derived.Test.YtlcjpnagjiemiaaRows
import Derived.Test.YtlcjpnagjiemiaaCdU
namespace Go.Proofs.Ytlcjpnagjiemiaa
open Go.RowKit

set_option maxHeartbeats 2000000 in
theorem resStr_err {A : Option Addr} {n c : Nat} {er : Int} {w : World} (z : ByteArray) (her : er ≠ 0) :
    Calls Try.prog 39 #[.agg #[.slice A n c, .int .i64 er], .string z] w fun e w' => e = .returned (.tuple #[.string ByteArray.empty, .slice none 0 0, .int .i64 er]) ∧ Below w.heap.size w w' := by
  have he1 : (er == 0) = false := by simp [her]
  have he2 : (er != 0) = true := by simp [her]
  go_enter Try.func39, Try.ntmps39
  go_wp2_with fail
  go_quiet (fail)
  go_wp2_with fail
  go_ret3
  exact ⟨rfl, below_drawn ((Below.refl _ _).alloc (Nat.le_refl _) _) _⟩
set_option maxHeartbeats 2000000 in
theorem resStr_ok {A : Option Addr} {n c : Nat} {l : List Int} {w : World} (z : ByteArray) (hA : Byt w A n c l) (hn : n ≤ 1000000000) :
    Calls Try.prog 39 #[.agg #[.slice A n c, .int .i64 0], .string z] w fun e w' => ∃ v, e = .returned (.tuple #[.string z, v, .int .i64 0]) ∧ Own w' w.heap.size v l ∧ Below w.heap.size w w' := by
  obtain ⟨i0, hi0, hz0, hz1, hz2⟩ := info_parts byteInfo
  have hl := hA.len
  have hcl : (C8 l).length = n := by rw [C8_len, hl]
  have h0 := (Below.refl w.heap.size w).alloc (Nat.le_refl _) (.cells #[.slice A n c, .int .i64 0] 54)
  have hin : (Try.prog.info? 5).map (·.size) = some 1 := by rw [hi0]; simp [hz1]
  have HI := Lib.hid hin; have H0 := Lib.hid h0; have HCL := Lib.hid hcl; have HL := Lib.hid hl
  have HA := Lib.hid hA; clear hA h0 hin hcl hl
  go_enter Try.func39, Try.ntmps39
  go_wp2_with (first
    | (at_make; refine wpList_make_full _ rfl _ _ 22 rfl w.heap.size 5 i0 (.int .u8 0) 1 Try.underlying22 hi0 hz0 hz1 _ _ _ _ n rfl rfl rfl rfl (by rw [hz2]; omega) (by unfold maxLen; omega) (by simp) ?_; intro w1 hown0 hg0; have hb1 : Below w.heap.size w w1 := (H0.out.grown hg0 (by simp) (fun g hg' => by cases hg')); have hr0 : w1.cell? ⟨w.heap.size, 0, none⟩ = some (.slice A n c) := hg0.cell (cell_new0 _ _ _ _) (by simp); rw [show (w.alloc (.cells #[.slice A n c, .int .i64 0] 54)).heap.size = w.heap.size + 1 by simp] at hown0; have HF := Lib.hid (own_full hown0); have HB1 := Lib.hid hb1; clear hown0 hg0 hb1)
    | (refine wpList_copy_splice rfl (.tmp 19) (.tmp 21) 22 22 rfl 5 Try.underlying22 HI.out _ _ _ _ _ _ rfl rfl _ 0 _ 5 HF.out.2.1 (C8 l) (by rw [HCL.out]; exact (Nat.min_self n).symm) (fun hp => ⟨rfl, (HA.out.below HB1.out).src hp⟩) (by rw [HCL.out]; simp [madeCells]) (C8_one l) w.heap.size w HB1.out HF.out.1 ?_; intro w2 hg2 hb2))
  go_ret3
  refine ⟨_, rfl, ⟨?_, HA.out.ran⟩, hb2⟩
  rw [HL.out]
  refine own_of HF.out.1 ?_ HF.out.2.2 HCL.out
  have h2 := hg2.out
  rw [splice_all (by rw [HCL.out]; simp [madeCells])] at h2
  exact h2

set_option maxHeartbeats 2000000 in
theorem codText_any {A : Option Addr} {n c : Nat} {l : List Int} {w : World} (hA : Byt w A n c l) (hn : n ≤ 1000000000) :
    Calls Try.prog 20 #[.slice A n c] w fun e w' => ∃ v, e = .returned (.tuple #[.string (txtR (l, 0)).1, v, .int .i64 (txtR (l, 0)).2.2]) ∧ Own w' w.heap.size v (txtR (l, 0)).2.1 ∧ Below w.heap.size w w' := by
  have hl := hA.len
  have h0 := (Below.refl w.heap.size w).alloc (Nat.le_refl _) (.cells #[.slice A n c, .int .i64 0] 54)
  have hR : Rd w (w.alloc (.cells #[.slice A n c, .int .i64 0] 54)) w.heap.size l 0 := ⟨rfl, A, n, c, l, heap_alloc_new _ _, hA, fun _ => rfl, h0⟩
  have HN := Lib.hid (text_any hR)
  have hle := txtR_len (l, 0)
  have herr := txtR_err (l, 0)
  obtain ⟨S, hS⟩ : ∃ S, txtR (l, 0) = S := ⟨_, rfl⟩
  rw [hS] at HN hle herr ⊢
  obtain ⟨V, R, er⟩ := S
  have HLE := Lib.hid hle; have HER := Lib.hid herr
  have HL := Lib.hid hl
  have HNN := Lib.hid hn
  clear hA hS hle hl h0 hR herr hn
  go_enter Try.func20, Try.ntmps20
  by_cases her : er = 0
  · subst her
    go_wp2_with (first
      | (go_at_call 38; refine HN.out.mono ?_; rintro e w1 ⟨rfl, ⟨hg, A1, n1, c1, ys, hB, hA1, hys, hb1⟩, hgr⟩; obtain rfl := hys rfl; have c0 := hB.cell0; have c1' := hB.cell1; have HB1 := Lib.hid hb1; have hn1 : n1 ≤ 1000000000 := (by have h1 := HLE.out; have h2 := hA1.len; have h3 := HL.out; have h4 := HNN.out; simp only at h1; omega); have HR := Lib.hid (fun (z : ByteArray) => resStr_ok z (hA1.below hb1) hn1); clear hB hA1 hb1 hgr hg)
      | (go_at_call 39; refine (HR.out _).mono ?_; rintro e w2 ⟨v2, rfl, ho2, hb2⟩))
    go_ret3
    exact ⟨v2, rfl, ho2.mono HB1.out.size, HB1.out.trans (hb2.mono HB1.out.size)⟩
  · go_wp2_with (first
      | (go_at_call 38; refine HN.out.mono ?_; rintro e w1 ⟨rfl, ⟨hg, A1, n1, c1, ys, hB, hA1, hys, hb1⟩, hgr⟩; have c0 := hB.cell0; have c1' := hB.cell1; have HB1 := Lib.hid hb1; have HR := Lib.hid (fun (z : ByteArray) => resStr_err (A := A1) (n := n1) (c := c1) (w := w1) z her); clear hB hA1 hb1 hgr hg)
      | (go_at_call 39; refine (HR.out _).mono ?_; rintro e w2 ⟨rfl, hb2⟩))
    go_ret3
    obtain ⟨h1, h2⟩ := HER.out her
    subst h1; subst h2
    exact ⟨_, rfl, own_none _ _, HB1.out.trans (hb2.mono HB1.out.size)⟩

set_option maxHeartbeats 2000000 in
theorem resInts_err {A : Option Addr} {n c : Nat} {er : Int} {w : World} (z : Value) (her : er ≠ 0) :
    Calls Try.prog 36 #[.agg #[.slice A n c, .int .i64 er], z] w fun e w' => e = .returned (.tuple #[.slice none 0 0, .slice none 0 0, .int .i64 er]) ∧ Below w.heap.size w w' := by
  have he1 : (er == 0) = false := by simp [her]
  have he2 : (er != 0) = true := by simp [her]
  go_enter Try.func36, Try.ntmps36
  go_wp2_with fail
  go_quiet (fail)
  go_wp2_with fail
  go_ret3
  exact ⟨rfl, below_drawn ((Below.refl _ _).alloc (Nat.le_refl _) _) _⟩
set_option maxHeartbeats 2000000 in
theorem resInts_ok {A : Option Addr} {n c : Nat} {l : List Int} {w : World} (z : Value) (hA : Byt w A n c l) (hn : n ≤ 1000000000) :
    Calls Try.prog 36 #[.agg #[.slice A n c, .int .i64 0], z] w fun e w' => ∃ v, e = .returned (.tuple #[z, v, .int .i64 0]) ∧ Own w' w.heap.size v l ∧ Below w.heap.size w w' := by
  obtain ⟨i0, hi0, hz0, hz1, hz2⟩ := info_parts byteInfo
  have hl := hA.len
  have hcl : (C8 l).length = n := by rw [C8_len, hl]
  have h0 := (Below.refl w.heap.size w).alloc (Nat.le_refl _) (.cells #[.slice A n c, .int .i64 0] 54)
  have hin : (Try.prog.info? 5).map (·.size) = some 1 := by rw [hi0]; simp [hz1]
  have HI := Lib.hid hin; have H0 := Lib.hid h0; have HCL := Lib.hid hcl; have HL := Lib.hid hl
  have HA := Lib.hid hA; clear hA h0 hin hcl hl
  go_enter Try.func36, Try.ntmps36
  go_wp2_with (first
    | (at_make; refine wpList_make_full _ rfl _ _ 22 rfl w.heap.size 5 i0 (.int .u8 0) 1 Try.underlying22 hi0 hz0 hz1 _ _ _ _ n rfl rfl rfl rfl (by rw [hz2]; omega) (by unfold maxLen; omega) (by simp) ?_; intro w1 hown0 hg0; have hb1 : Below w.heap.size w w1 := (H0.out.grown hg0 (by simp) (fun g hg' => by cases hg')); have hr0 : w1.cell? ⟨w.heap.size, 0, none⟩ = some (.slice A n c) := hg0.cell (cell_new0 _ _ _ _) (by simp); rw [show (w.alloc (.cells #[.slice A n c, .int .i64 0] 54)).heap.size = w.heap.size + 1 by simp] at hown0; have HF := Lib.hid (own_full hown0); have HB1 := Lib.hid hb1; clear hown0 hg0 hb1)
    | (refine wpList_copy_splice rfl (.tmp 19) (.tmp 21) 22 22 rfl 5 Try.underlying22 HI.out _ _ _ _ _ _ rfl rfl _ 0 _ 5 HF.out.2.1 (C8 l) (by rw [HCL.out]; exact (Nat.min_self n).symm) (fun hp => ⟨rfl, (HA.out.below HB1.out).src hp⟩) (by rw [HCL.out]; simp [madeCells]) (C8_one l) w.heap.size w HB1.out HF.out.1 ?_; intro w2 hg2 hb2))
  go_ret3
  refine ⟨_, rfl, ⟨?_, HA.out.ran⟩, hb2⟩
  rw [HL.out]
  refine own_of HF.out.1 ?_ HF.out.2.2 HCL.out
  have h2 := hg2.out
  rw [splice_all (by rw [HCL.out]; simp [madeCells])] at h2
  exact h2

theorem OwnI.below {w w' : World} {base : Nat} {v : Value} {L : List Int} (h : OwnI w base v L) (hb : Below w.heap.size w w') : OwnI w' base v L :=
  World.ownsRow.kept h (row := none) ⟨hb.os, hb.tape, hb.output, hb.size, fun k hk _ => hb.block k hk⟩ (by cases hv : v.ownBlock with
    | none => exact .inl rfl
    | some x => exact .inr (by simp))
set_option maxHeartbeats 2000000 in
theorem codNumbers_any {A : Option Addr} {n c : Nat} {l : List Int} {w : World} (hA : Byt w A n c l) (hn : n ≤ 1000000000) :
    Calls Try.prog 17 #[.slice A n c] w fun e w' => ∃ u v, e = .returned (.tuple #[u, v, .int .i64 (numsR (l, 0)).2.2]) ∧ OwnI w' w.heap.size u (numsR (l, 0)).1 ∧ Own w' w.heap.size v (numsR (l, 0)).2.1 ∧ Below w.heap.size w w' := by
  have hl := hA.len
  have h0 := (Below.refl w.heap.size w).alloc (Nat.le_refl _) (.cells #[.slice A n c, .int .i64 0] 54)
  have hR : Rd w (w.alloc (.cells #[.slice A n c, .int .i64 0] 54)) w.heap.size l 0 := ⟨rfl, A, n, c, l, heap_alloc_new _ _, hA, fun _ => rfl, h0⟩
  have HN := Lib.hid (numbers_any hR (by simp))
  have hle := numsR_len (l, 0)
  have herr := numsR_err (l, 0)
  obtain ⟨⟨V, R, er⟩, hS⟩ : ∃ S, numsR (l, 0) = S := ⟨_, rfl⟩
  rw [hS] at HN hle herr ⊢
  have HLE := Lib.hid hle; have HER := Lib.hid herr
  have HL := Lib.hid hl
  have HNN := Lib.hid hn
  clear hA hS hle hl h0 hR herr hn
  go_enter Try.func17, Try.ntmps17
  by_cases her : er = 0
  · subst her
    go_wp2_with (first
      | (go_at_call 35; refine HN.out.mono ?_; rintro e w1 ⟨v1, zs, rfl, hv1, hzs, ⟨hg, A1, n1, c1, ys, hB, hA1, hys, hb1⟩⟩; obtain rfl := hzs rfl; obtain rfl := hys rfl; have c0 := hB.cell0; have c1' := hB.cell1; have HB1 := Lib.hid hb1; have hn1 : n1 ≤ 1000000000 := (by have h1 := HLE.out; have h2 := hA1.len; have h3 := HL.out; have h4 := HNN.out; simp only at h1; omega); have HR := Lib.hid (fun (z : Value) => resInts_ok z (hA1.below hb1) hn1); have HV := Lib.hid hv1; clear hB hA1 hb1 hg hv1 hzs hys)
      | (go_at_call 36; refine (HR.out _).mono ?_; rintro e w2 ⟨v2, rfl, ho2, hb2⟩))
    go_ret3
    exact ⟨v1, v2, rfl, own_mono (HV.out.below hb2) (Nat.le_succ _), ho2.mono HB1.out.size, HB1.out.trans (hb2.mono HB1.out.size)⟩
  · go_wp2_with (first
      | (go_at_call 35; refine HN.out.mono ?_; rintro e w1 ⟨v1, zs, rfl, hv1, hzs, ⟨hg, A1, n1, c1, ys, hB, hA1, hys, hb1⟩⟩; have c0 := hB.cell0; have c1' := hB.cell1; have HB1 := Lib.hid hb1; have HR := Lib.hid (fun (z : Value) => resInts_err (A := A1) (n := n1) (c := c1) (w := w1) z her); clear hB hA1 hb1 hg hv1 hzs hys)
      | (go_at_call 36; refine (HR.out _).mono ?_; rintro e w2 ⟨rfl, hb2⟩))
    go_ret3
    obtain ⟨h1, h2⟩ := HER.out her
    subst h1; subst h2
    exact ⟨_, _, rfl, World.ownsRow_nil _ _ _ _, own_none _ _, HB1.out.trans (hb2.mono HB1.out.size)⟩
end Go.Proofs.Ytlcjpnagjiemiaa
