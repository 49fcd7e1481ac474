/- Walks: the date of a day, in the program and in the reference. -/
import Derived.Test.YtigohhliblgdhaaDoorCalRefDay
namespace Go.Proofs.YtigohhliblgdhaaDoor
open Go.RowKit

/-- Block g is just the cells cs of element type t, none frozen. -/
def Blk (w : World) (g : Nat) (t : TypeId) (cs : Array Value) : Prop := w.heap[g]? = some (.cells cs t (0, 0))
theorem Blk.lt {w : World} {g : Nat} {t : TypeId} {cs : Array Value} (h : Blk w g t cs) : g < w.heap.size := by
  rcases Nat.lt_or_ge g w.heap.size with hlt | hge
  · exact hlt
  · unfold Blk at h; rw [Array.getElem?_eq_none hge] at h; cases h
theorem Blk.cell {w : World} {g : Nat} {t : TypeId} {cs : Array Value} (h : Blk w g t cs) (i : Nat) : w.cell? ⟨g, i, none⟩ = cs[i]? := cell_of_row w g i cs t (0, 0) h
theorem Blk.frozen {w : World} {g : Nat} {t : TypeId} {cs : Array Value} (h : Blk w g t cs) (i : Nat) : w.frozen? ⟨g, i, none⟩ = false := by
  unfold Blk at h
  simp [World.frozen?, h]
theorem Blk.new (w : World) (t : TypeId) (cs : Array Value) : Blk (w.alloc (.cells cs t)) w.heap.size t cs := heap_alloc_new w _
theorem Blk.below {w w' : World} {B g : Nat} {t : TypeId} {cs : Array Value} (h : Blk w g t cs) (hb : Below B w w') (hg : g < B) : Blk w' g t cs := (hb.block g hg).trans h

/-- Where the search of a year ends. -/
theorem year_end {n y : Int} (h0 : 0 ≤ n) (h1 : n < 146097) (hy : 2000 ≤ y) (hy2 : y ≤ 2399) (h : nyr y ≤ n) (h2 : n < nyr (y + 1)) : yrI n = y := by
  obtain ⟨a, b, c, e⟩ := yr_spec n h0 h1
  rcases Int.lt_trichotomy (yrI n) y with hlt | heq | hgt
  · have := nyr_mono (yrI n + 1) y (by omega) (by omega); omega
  · exact heq
  · have := nyr_mono (y + 1) (yrI n) (by omega) (by omega); omega
/-- Where the search of a month ends. -/
theorem month_end {n y r : Int} {k : Nat} (hy : 2000 ≤ y) (hy2 : y ≤ 2399) (hk : k ≤ 11) (hr : n - nyr y - cum y k = r) (h : 0 ≤ r) (h2 : r < lenI y ((k : Int) + 1)) : yrI n = y ∧ moI n = (k : Int) + 1 ∧ dyI n = r + 1 := by
  have e : ((k : Int) + 1 - 1).toNat = k := by omega
  obtain ⟨_, _, a, b, c⟩ := date_uniq (n := n) (y := y) (m := (k : Int) + 1) (d := r + 1) (okD_iff.2 ⟨by omega, by omega⟩) (by unfold dayI; rw [e]; omega)
  exact ⟨a, b, c⟩
theorem lt_or_le' (a b : Int) : a < b ∨ b ≤ a := by omega
theorem ret_date {a b c x y z : Int} (h : a = x) (h2 : b = y) (h3 : c = z) : Ending.returned (.agg #[.int .i64 a, .int .i64 b, .int .i64 c]) = .returned (.agg #[.int .i64 x, .int .i64 y, .int .i64 z]) := by rw [h, h2, h3]

set_option maxHeartbeats 2000000 in
theorem date_out (n : Int) (w : World) (h : n < 0 ∨ 146097 ≤ n) :
    Calls Tryd.prog 14 #[.int .i64 n] w fun e w' => e = .returned (.agg #[.int .i64 0, .int .i64 0, .int .i64 0]) ∧ Below w.heap.size w w' := by
  have H := Lib.hid (fun w => validDay_no n w h)
  clear h
  go_enter Tryd.func14, Tryd.ntmps14
  go_wp2_with (go_at_call 32; refine (H.out _).mono ?_; rintro e w1 ⟨rfl, rfl⟩)
  exact bodyPost_ret (v := .agg #[.int .i64 0, .int .i64 0, .int .i64 0]) (by simp [results, Tryd.results14, go_sem]) rfl ⟨rfl, (Below.refl _ _).alloc (Nat.le_refl _) _⟩
set_option maxHeartbeats 2000000 in
theorem refDate_out (n : Int) (w : World) (h : n < 0 ∨ 146097 ≤ n) :
    Calls Tryd.prog 15 #[.int .i64 n] w fun e w' => e = .returned (.agg #[.int .i64 0, .int .i64 0, .int .i64 0]) ∧ Below w.heap.size w w' := by
  rcases h with h | h
  · go_enter Tryd.func15, Tryd.ntmps15
    go_wp2
    exact bodyPost_ret (v := .agg #[.int .i64 0, .int .i64 0, .int .i64 0]) (by simp [results, Tryd.results15, go_sem]) rfl ⟨rfl, (Below.refl _ _).alloc (Nat.le_refl _) _⟩
  · have h' : ¬ n < 0 := by omega
    go_enter Tryd.func15, Tryd.ntmps15
    go_wp2
    exact bodyPost_ret (v := .agg #[.int .i64 0, .int .i64 0, .int .i64 0]) (by simp [results, Tryd.results15, go_sem]) rfl ⟨rfl, (Below.refl _ _).alloc (Nat.le_refl _) _⟩
set_option maxHeartbeats 4000000 in
theorem date_in (n : Int) (w : World) (h : 0 ≤ n) (h2 : n < 146097) :
    Calls Tryd.prog 14 #[.int .i64 n] w fun e w' => e = .returned (.agg #[.int .i64 (yrI n), .int .i64 (moI n), .int .i64 (dyI n)]) ∧ Below w.heap.size w w' := by
  have H := Lib.hid (fun w => validDay_yes n w h h2)
  have hg := nyr_guess n h h2
  obtain ⟨Y, hY⟩ : ∃ Y, yrI n = Y := ⟨_, rfl⟩
  obtain ⟨M, hM⟩ : ∃ M, moI n = M := ⟨_, rfl⟩
  obtain ⟨D, hD⟩ : ∃ D, dyI n = D := ⟨_, rfl⟩
  rw [hY, hM, hD]
  have HY := Lib.hid hY; have HM := Lib.hid hM; have HD := Lib.hid hD
  clear hY hM hD
  go_enter Tryd.func14, Tryd.ntmps14
  go_wp2_with (go_at_call 32; refine (H.out _).mono ?_; rintro e w1 ⟨rfl, rfl⟩)
  go_loop [3] (fun t => ∃ y : Int, 2000 ≤ y ∧ y ≤ 2399 ∧ nyr y ≤ n ∧ t = .int .i64 y) (fun t => (2399 - intOf t).toNat)
  case atStart => exact ⟨2000 + n / 366, by omega, hg.2, hg.1, rfl⟩
  case round =>
    obtain ⟨y, hy, hy2, hy3, rfl⟩ := hrel
    have HN := Lib.hid (fun w => newYear_any (y + 1) w (by omega) (by omega))
    have HN0 := Lib.hid (fun w => newYear_any y w (by omega) (by omega))
    have hlim : y = 2399 → n < nyr (y + 1) := by rintro rfl; rw [show nyr (2399 + 1) = 146097 by decide]; exact h2
    clear hg
    by_cases hc : nyr (y + 1) ≤ n
    · have hy4 : y + 1 ≤ 2399 := by
        rcases lt_or_le' y 2399 with h5 | h5
        · omega
        · exact absurd (hlim (by omega)) (by omega)
      clear hlim
      go_wp2_with (go_at_call 28; refine (HN.out _).mono ?_; rintro e w1 ⟨rfl, rfl⟩)
      go_round
      case rel => exact ⟨y + 1, by omega, hy4, hc, rfl⟩
      case measure => simp [intOf]; omega
    · have he := year_end h h2 hy hy2 hy3 (by omega)
      have nb := nyr_bd y hy (by omega)
      have hs := nyr_succ y hy
      have cy := cum_year y hy hy2
      have lb := lpI_01 y
      obtain ⟨N, hN⟩ : ∃ N, nyr y = N := ⟨_, rfl⟩
      rw [hN] at hy3 HN0 nb hs
      have HNN := Lib.hid hN
      have hrest : n - N < cum y 12 := by omega
      clear hlim hN cy
      have hlt : ¬ nyr (y + 1) ≤ n := hc
      obtain ⟨N1, hN1⟩ : ∃ N1, nyr (y + 1) = N1 := ⟨_, rfl⟩
      rw [hN1] at hlt HN hs hc
      have hs' : N1 ≤ N + 366 := by omega
      clear hN1 hs hc
      have HC12 := Lib.hid hrest; clear hrest
      go_wp2_with (first
        | (go_at_call 28; (with_reducible refine (HN.out _).mono ?_); rintro e w1 ⟨rfl, rfl⟩)
        | (go_at_call 28; (with_reducible refine (HN0.out _).mono ?_); rintro e w1 ⟨rfl, rfl⟩))
      have hblk : Blk (w.alloc (.cells #[.int .i64 0, .int .i64 0, .int .i64 0] 23)) w.heap.size 23 #[.int .i64 0, .int .i64 0, .int .i64 0] := Blk.new w _ _
      go_loopw [4, 5] (fun r i wr => ∃ (k : Nat) (c : Int), k ≤ 11 ∧ i = .int .i64 ((k : Int) + 1) ∧ Hid (cum y k = c) ∧ 0 ≤ c ∧ c ≤ n - N ∧ r = .int .i64 (n - N - c) ∧ Below w.heap.size w wr ∧ Blk wr w.heap.size 23 #[.int .i64 0, .int .i64 0, .int .i64 0]) (fun _ i _ => (12 - intOf i).toNat)
      case atStart => exact ⟨0, 0, by omega, rfl, rfl, by omega, by omega, by simp, (Below.refl _ _).alloc (Nat.le_refl _) _, hblk⟩
      case round =>
        clear hblk
        obtain ⟨k, c, hk, rfl, HC, hc0, hc1, rfl, hb, hB⟩ := hrel
        have cs := cum_step y k
        rw [HC.out] at cs
        have lb2 := len_bd y ((k : Int) + 1)
        have HK := Lib.hid (fun w => length_any y ((k : Int) + 1) w)
        have HM2 := Lib.hid (fun (r : Int) (e : n - nyr y - cum y k = r) => month_end hy hy2 hk e)
        obtain ⟨l, hl⟩ : ∃ l, lenI y ((k : Int) + 1) = l := ⟨_, rfl⟩
        rw [hl] at cs lb2 HK HM2
        have hlast : n - N - c ≥ l → k + 1 ≤ 11 := by
          intro h5
          rcases Nat.lt_or_ge k 11 with h6 | h6
          · omega
          · obtain rfl : k = 11 := by omega
            have := HC12.out
            rw [cs] at this; omega
        have HS := Lib.hid cs
        have HBB := Lib.hid hB
        have hg := hB.lt
        clear cs hl hB
        by_cases hge : n - N - c ≥ l
        · have hk2 := hlast hge
          clear hlast
          go_wp2_with fail
          refine (HK.out _).mono ?_
          rintro e w2 ⟨rfl, hb3⟩
          go_wp2_with fail
          refine (HK.out _).mono ?_
          rintro e w3 ⟨rfl, hb4⟩
          go_wp2
          have hb5 : Below wr.heap.size wr w3 := hb3.trans (hb4.mono hb3.size)
          go_roundw
          case rel => exact ⟨k + 1, c + l, hk2, by go_num, HS.out, by omega, by omega, by go_num, hb.trans (hb5.mono hb.size), HBB.out.below hb5 hg⟩
          case measure => simp [intOf]; omega
        · clear hlast
          obtain ⟨e1, e2, e3⟩ := HM2.out (n - N - c) (by rw [HNN.out, HC.out]) (by omega) (by omega)
          have HF := Lib.hid (And.intro e1 (And.intro e2 e3))
          clear e1 e2 e3
          go_wp2_with fail
          refine (HK.out _).mono ?_
          rintro e w2 ⟨rfl, hb3⟩
          have hB2 := HBB.out.below hb3 hg
          have c0 := hB2.cell 0
          have c1 := hB2.cell 1
          have c2 := hB2.cell 2
          have f0 := hB2.frozen 0
          have f1 := hB2.frozen 1
          have f2 := hB2.frozen 2
          simp only [List.getElem?_toArray, List.getElem?_cons_zero, List.getElem?_cons_succ] at c0 c1 c2
          have hgw := hB2.lt
          clear hB2
          go_wp2
          refine bodyPost_ret (v := .agg #[.int .i64 y, .int .i64 ((k : Int) + 1), .int .i64 (n - N - c + 1)]) (by simp [results, Tryd.results14, go_sem, c0, c1, c2, f0, f1, f2]) rfl ⟨?_, ?_⟩
          · exact ret_date (by rw [← HF.out.1, HY.out]) (by rw [← HF.out.2.1, HM.out]) (by rw [← HF.out.2.2, HD.out])
          · exact (((hb.trans (hb3.mono hb.size)).setCell (by simp) _).setCell (by simp) _).setCell (by simp) _
end Go.Proofs.YtigohhliblgdhaaDoor
