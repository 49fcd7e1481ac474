/- Walk of the law FrameLong. -/
import Derived.Test.YtfamghmoanfdgaaRows
import Derived.Test.YtfamghmoanfdgaaFrL4
namespace Go.Proofs.Ytfamghmoanfdgaa
open Go.RowKit

theorem zeros_cells (n : Nat) : (madeCells (Value.int .u8 0).cells (n * 1)).toList = C8 (List.replicate n 0) := by
  rw [Nat.mul_one]
  apply List.ext_getElem
  · simp [madeCells, C8]
  · intro i h1 h2
    simp [madeCells, C8, Value.cells, Nat.mod_one]
theorem zeros_ran (n : Nat) : ∀ x ∈ List.replicate n (0 : Int), 0 ≤ x ∧ x ≤ 255 := by
  intro x hx
  obtain ⟨_, rfl⟩ := List.mem_replicate.1 hx
  omega
/-- A row of zeros that was just made. -/
theorem own_zeros {w : World} {base g n : Nat} (h : w.ownsRow base 5 1 (.slice (some ⟨g, 0, none⟩) n n) n (madeCells (Value.int .u8 0).cells (n * 1)).toList) : Own w base (.slice (some ⟨g, 0, none⟩) n n) (List.replicate n 0) := by
  rw [zeros_cells] at h
  exact ⟨by rw [List.length_replicate]; exact h, zeros_ran n⟩
theorem numE_max : (numE (1048576 : Nat)).length = 4 := by
  have hz : zig ((1048576 : Nat) : Int) = 2097152 := by unfold zig; split <;> omega
  rw [numE, hz, grp_big (by decide), grp_big (by decide), grp_big (by decide), grp_small (by decide)]
  rfl
theorem frm_max {p : List Int} (h : p.length = 1048576) : (frm p).length = 1048584 := by
  simp only [frm, List.length_append, be4_len, h, numE_max]
theorem frm_one : (frm [1]).length = 6 := by
  have hz : (numE (([1] : List Int).length)).length = 1 := by rw [numE, show zig ((([1] : List Int).length : Nat) : Int) = 2 from rfl, grp_small (by decide)]; rfl
  simp only [frm, List.length_append, be4_len, hz]; rfl
set_option maxHeartbeats 2000000 in
theorem wrap_no {A : Option Addr} {n c : Nat} {l : List Int} {w : World} (hA : Byt w A n c l) (hf : fits l = false) (hn : n ≤ 2000000) :
    Calls Try.prog 15 #[.slice A n c] w fun e w' => e = .returned (.tuple #[.slice none 0 0, .int .i64 5]) ∧ Below w.heap.size w w' := by
  have hl := hA.len
  obtain ⟨L, hL⟩ : ∃ L, w.alloc (.cells #[.slice A n c] 22) = L := ⟨_, rfl⟩
  have bL : Below w.heap.size w L := hL ▸ below_lit _ _
  have hlen : (joinE [l]).length ≤ 100000000 := by
    have h1 := numE_len (z := l.length) (by omega) (by omega)
    simp only [joinE, frm, List.length_append, be4_len, List.length_nil]; omega
  have hJ := join_all (hL ▸ pls_one w hA) (by decide) hlen
  have HJ := Lib.hid hJ; have BL := Lib.hid bL; have HF := Lib.hid hf
  clear hA hl hn hlen hJ bL hf
  go_enter Try.func15, Try.ntmps15
  go_wp2_with (go_at_call 18; refine HJ.out.mono ?_; rintro e w1 ⟨h1, hb1⟩; rw [if_neg (by simp [HF.out])] at h1; obtain rfl := h1)
  go_ret2
  exact ⟨rfl, BL.out.trans (hb1.mono BL.out.size)⟩
/-- Two payloads in a list of their own. -/
theorem pls_two (w : World) {A B : Option Addr} {n c m d : Nat} {l r : List Int} (h : Byt w A n c l) (g : Byt w B m d r) : Pls (w.alloc (.cells #[.slice A n c, .slice B m d] 22)) (some ⟨w.heap.size, 0, none⟩) 2 2 [.slice A n c, .slice B m d] [l, r] := by
  refine ⟨⟨rfl, by simp [Value.oneCell'], .inr ⟨_, rfl, fun j u hu => ⟨by simp, ?_⟩⟩⟩, rfl, fun i hi => ?_⟩
  · have h := heap_alloc_new w (.cells #[.slice A n c, .slice B m d] 22)
    rw [add_none, Nat.zero_add]
    simp only [World.cell?, h]
    simpa using hu
  · rcases Nat.lt_or_ge i 1 with h1 | h1
    · obtain rfl : i = 0 := by omega
      exact ⟨A, n, c, l, rfl, rfl, h.below (below_lit _ _)⟩
    · obtain rfl : i = 1 := by omega
      exact ⟨B, m, d, r, rfl, rfl, g.below (below_lit _ _)⟩
theorem join_no {A : Option Addr} {n c : Nat} {vs : List Value} {ps : List (List Int)} {w : World} (hA : Pls w A n c vs ps) (hn : n ≤ 100000) (hj : (joinE ps).length ≤ 100000000) (hf : ps.all fits = false) :
    Calls Try.prog 18 #[.slice A n c] w fun e w' => e = .returned (.tuple #[.slice none 0 0, .int .i64 5]) ∧ Below w.heap.size w w' :=
  (join_all hA hn hj).mono fun e w' ⟨h1, hb⟩ => by
    rw [if_neg (by rw [hf]; decide)] at h1
    exact ⟨h1, hb⟩
theorem two_len (n : Nat) (hn : n ≤ 1048831) : (joinE [[1], List.replicate n 0]).length ≤ 100000000 := by
  have h1 := numE_len (z := n) (by omega) (by omega)
  have h2 := frm_one
  simp only [joinE, List.length_append, List.length_nil, h2]
  simp only [frm, List.length_append, be4_len, List.length_replicate]; omega

theorem own_z {w : World} {base g n : Nat} {Z : List Int} (h : w.ownsRow base 5 1 (.slice (some ⟨g, 0, none⟩) n n) n (madeCells (Value.int .u8 0).cells (n * 1)).toList) (hZ : List.replicate n 0 = Z) : Own w base (.slice (some ⟨g, 0, none⟩) n n) Z := hZ ▸ own_zeros h
theorem two_max {Z : List Int} (h : Z.length = 1048576) : (joinE [[1], Z]).length = 1048590 := by
  simp only [joinE, List.length_append, List.length_nil, frm_one, frm_max h]
set_option maxRecDepth 100000 in
set_option maxHeartbeats 8000000 in
theorem longYes (N : Nat) (hN : N = 1048576) (W : World) : Calls Try.prog 10 #[.int .u8 0] W fun e w' => e = .returned (.bool true) ∧ Below W.heap.size W w' := by
  obtain ⟨i0, hi0, hz0, hz1, hz2⟩ := info_parts byteInfo
  have HALV := Lib.hid alive_any
  obtain ⟨Z, hZ⟩ : ∃ Z, List.replicate N (0 : Int) = Z := ⟨_, rfl⟩
  have hZl : Z.length = 1048576 := by rw [← hZ, List.length_replicate, hN]
  have HZ := Lib.hid hZ; have HZL := Lib.hid hZl
  have HNI : Hid ((1048576 : Int) = (N : Int)) := Lib.hid (by omega)
  have HNB : Hid (N ≤ 1048831) := Lib.hid (by omega)
  have HF : Hid (fits Z = true) := Lib.hid (by simp [fits, hZl])
  have HJ2 : Hid ((joinE [[1], Z]).length ≤ 100000000) := Lib.hid (by rw [two_max hZl]; decide)
  have HJF : Hid ([[1], Z].all fits = true) := Lib.hid (by simp [HF.out]; simp [fits])
  clear hZ hZl hN
  go_enter Try.func10, Try.ntmps10
  go_wp2_with (first
    | (at_make; refine wpList_make_full _ rfl (.tmp 10) (.tmp 10) 22 rfl W.heap.size 5 i0 (.int .u8 0) 1 Try.underlying22 hi0 hz0 hz1 _ _ _ _ N rfl rfl HNI.out HNI.out (by rw [hz2]; have := HNB.out; omega) (by have := HNB.out; unfold maxLen; omega) (Nat.le_refl _) ?_; intro w1 hown hg; have hb := ((Below.refl _ _).grown hg (Nat.le_refl _) (fun g hg' => by cases hg') : Below W.heap.size W w1); have hy := (own_z hown HZ.out).bytm; obtain ⟨A1, m1, c1, hv1, hm1, y1⟩ := hy; simp only [Value.slice.injEq] at hv1; obtain ⟨rfl, rfl, rfl⟩ := hv1; have Y1 := Lib.hid y1; have HB1 := Lib.hid hb; clear hown hg hb y1 hm1)
    | (go_at_call 15; refine (wrap_ok Y1.out HF.out).mono ?_; rintro e w2 ⟨v2, rfl, ho2, hb2⟩; obtain ⟨A2, m2, c2, rfl, hm2, -⟩ := ho2.bytm; obtain rfl : m2 = 1048584 := hm2.out.trans (frm_max HZL.out); have HB2 := Lib.hid (HB1.out.trans (hb2.mono HB1.out.size)); clear ho2 hb2; obtain ⟨L3, hL3, bL3, yL3⟩ := lit_world w2 [1] (by decide) (by decide); change w2.alloc (.cells #[.int .u8 1] 5) = L3 at hL3; have YL3 : Hid (Byt L3 (some ⟨w2.heap.size, 0, none⟩) 1 1 [1]) := Lib.hid yL3; have HB3 := Lib.hid (HB2.out.trans (bL3.mono HB2.out.size)); clear bL3 yL3)
    | (at_make; refine wpList_make_full _ rfl (.tmp 19) (.tmp 19) 22 rfl L3.heap.size 5 i0 (.int .u8 0) 1 Try.underlying22 hi0 hz0 hz1 _ _ _ _ N rfl rfl HNI.out HNI.out (by rw [hz2]; have := HNB.out; omega) (by have := HNB.out; unfold maxLen; omega) (Nat.le_refl _) ?_; intro w4 hown hg; have hb := ((Below.refl _ _).grown hg (Nat.le_refl _) (fun g hg' => by cases hg') : Below L3.heap.size L3 w4); have hy := (own_z hown HZ.out).bytm; obtain ⟨A4, m4, c4, hv4, hm4, y4⟩ := hy; simp only [Value.slice.injEq] at hv4; obtain ⟨rfl, rfl, rfl⟩ := hv4; have HB4 := Lib.hid (HB3.out.trans (hb.mono HB3.out.size)); obtain ⟨L5, hL5⟩ : ∃ L5, w4.alloc (.cells #[.slice (some ⟨w2.heap.size, 0, none⟩) 1 1, .slice (some ⟨L3.heap.size, 0, none⟩) N N] 22) = L5 := ⟨_, rfl⟩; have hp := pls_two w4 (YL3.out.below hb) y4; rw [hL5] at hp; have HP := Lib.hid (join_ok hp (by decide) HJ2.out HJF.out); have HB5 := Lib.hid (HB4.out.trans ((hL5 ▸ below_lit w4 _ : Below w4.heap.size w4 L5).mono HB4.out.size)); clear hown hg hb y4 hm4 hp)
    | (go_at_call 18; refine HP.out.mono ?_; rintro e w6 ⟨v6, rfl, ho6, hb6⟩; obtain ⟨A6, m6, c6, rfl, hm6, -⟩ := ho6.bytm; obtain rfl : m6 = 1048590 := hm6.out.trans (two_max HZL.out); have HB6 := Lib.hid (HB5.out.trans (hb6.mono HB5.out.size)); clear ho6 hb6)
    | (go_at_call 13; refine (HALV.out _).mono ?_; rintro e w7 ⟨rfl, hb7⟩))
  go_ret
  exact ⟨rfl, HB6.out.trans (hb7.mono HB6.out.size)⟩
set_option maxRecDepth 100000 in
set_option maxHeartbeats 8000000 in
theorem longNo (N k : Nat) (hk : 1 ≤ k) (hk2 : k ≤ 255) (hN : N = 1048576 + k) (W : World) : Calls Try.prog 10 #[.int .u8 (k : Int)] W fun e w' => e = .returned (.bool true) ∧ Below W.heap.size W w' := by
  obtain ⟨i0, hi0, hz0, hz1, hz2⟩ := info_parts byteInfo
  have HALV := Lib.hid alive_any
  have hpos : (0 : Int) < (k : Int) := by omega
  have hki : (k : Int) ≤ 255 := by omega
  obtain ⟨Z, hZ⟩ : ∃ Z, List.replicate N (0 : Int) = Z := ⟨_, rfl⟩
  have hZl : Z.length = N := by rw [← hZ, List.length_replicate]
  have HZ := Lib.hid hZ; have HZL := Lib.hid hZl
  have HNI : Hid (1048576 + (k : Int) = (N : Int)) := Lib.hid (by omega)
  have HNB : Hid (N ≤ 1048831) := Lib.hid (by omega)
  have HF : Hid (fits Z = false) := Lib.hid (by simp [fits, hZl]; omega)
  have HJ2 : Hid ((joinE [[1], Z]).length ≤ 100000000) := Lib.hid (by rw [← hZ]; exact two_len N (by omega))
  have HJF : Hid ([[1], Z].all fits = false) := Lib.hid (by simp [HF.out])
  clear hZ hZl hN hk hk2
  go_enter Try.func10, Try.ntmps10
  go_wp2_with (first
    | (at_make; refine wpList_make_full _ rfl (.tmp 10) (.tmp 10) 22 rfl W.heap.size 5 i0 (.int .u8 0) 1 Try.underlying22 hi0 hz0 hz1 _ _ _ _ N rfl rfl HNI.out HNI.out (by rw [hz2]; have := HNB.out; omega) (by have := HNB.out; unfold maxLen; omega) (Nat.le_refl _) ?_; intro w1 hown hg; have hb := ((Below.refl _ _).grown hg (Nat.le_refl _) (fun g hg' => by cases hg') : Below W.heap.size W w1); have hy := (own_z hown HZ.out).bytm; obtain ⟨A1, m1, c1, hv1, hm1, y1⟩ := hy; simp only [Value.slice.injEq] at hv1; obtain ⟨rfl, rfl, rfl⟩ := hv1; have Y1 := Lib.hid y1; have HB1 := Lib.hid hb; clear hown hg hb y1 hm1)
    | (go_at_call 15; refine (wrap_no Y1.out HF.out (by have := HNB.out; omega)).mono ?_; rintro e w2 ⟨rfl, hb2⟩; have HB2 := Lib.hid (HB1.out.trans (hb2.mono HB1.out.size)); clear hb2; obtain ⟨L3, hL3, bL3, yL3⟩ := lit_world w2 [1] (by decide) (by decide); change w2.alloc (.cells #[.int .u8 1] 5) = L3 at hL3; have YL3 : Hid (Byt L3 (some ⟨w2.heap.size, 0, none⟩) 1 1 [1]) := Lib.hid yL3; have HB3 := Lib.hid (HB2.out.trans (bL3.mono HB2.out.size)); clear bL3 yL3)
    | (at_make; refine wpList_make_full _ rfl (.tmp 19) (.tmp 19) 22 rfl L3.heap.size 5 i0 (.int .u8 0) 1 Try.underlying22 hi0 hz0 hz1 _ _ _ _ N rfl rfl HNI.out HNI.out (by rw [hz2]; have := HNB.out; omega) (by have := HNB.out; unfold maxLen; omega) (Nat.le_refl _) ?_; intro w4 hown hg; have hb := ((Below.refl _ _).grown hg (Nat.le_refl _) (fun g hg' => by cases hg') : Below L3.heap.size L3 w4); have hy := (own_z hown HZ.out).bytm; obtain ⟨A4, m4, c4, hv4, hm4, y4⟩ := hy; simp only [Value.slice.injEq] at hv4; obtain ⟨rfl, rfl, rfl⟩ := hv4; have HB4 := Lib.hid (HB3.out.trans (hb.mono HB3.out.size)); obtain ⟨L5, hL5⟩ : ∃ L5, w4.alloc (.cells #[.slice (some ⟨w2.heap.size, 0, none⟩) 1 1, .slice (some ⟨L3.heap.size, 0, none⟩) N N] 22) = L5 := ⟨_, rfl⟩; have hp := pls_two w4 (YL3.out.below hb) y4; rw [hL5] at hp; have HP := Lib.hid (join_no hp (by decide) HJ2.out HJF.out); have HB5 := Lib.hid (HB4.out.trans ((hL5 ▸ below_lit w4 _ : Below w4.heap.size w4 L5).mono HB4.out.size)); clear hown hg hb y4 hm4 hp)
    | (go_at_call 18; refine HP.out.mono ?_; rintro e w6 ⟨rfl, hb6⟩; have HB6 := Lib.hid (HB5.out.trans (hb6.mono HB5.out.size)); clear hb6)
    | (go_at_call 13; refine (HALV.out _).mono ?_; rintro e w7 ⟨rfl, hb7⟩))
  go_ret
  exact ⟨rfl, HB6.out.trans (hb7.mono HB6.out.size)⟩
theorem walkFrameLong (z : Int) (W : World) (hz : (Lit.int .u8 z).wf = true) : Calls Try.prog 10 #[.int .u8 z] W fun e w' => e = .returned (.bool true) ∧ Below W.heap.size W w' := by
  obtain ⟨h0, h1⟩ := u8_bounds hz
  obtain ⟨k, rfl⟩ := Int.eq_ofNat_of_zero_le h0
  rcases Nat.eq_zero_or_pos k with rfl | hp
  · exact longYes 1048576 rfl W
  · exact longNo (1048576 + k) k hp (by omega) rfl W
end Go.Proofs.Ytfamghmoanfdgaa
