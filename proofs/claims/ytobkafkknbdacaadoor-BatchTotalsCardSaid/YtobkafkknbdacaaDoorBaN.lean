/- Walk: the law on totals. -/
import Derived.Test.YtobkafkknbdacaaDoorBaL
import Derived.Deep.QuietTactic
namespace Go.Proofs.YtobkafkknbdacaaDoor.Va
open Go.RowKit

theorem own_lit12 (w : World) : (w.alloc (.cells #[] 33)).ownsRow w.heap.size 33 12 (.slice (some ⟨w.heap.size, 0, none⟩) 0 0) 0 [] := by
  have h := heap_alloc_new w (.cells #[] 33)
  exact ⟨by simp, .inr ⟨w.heap.size, 0, #[], rfl, Nat.le_refl _, h, Nat.le_refl _, by unfold maxLen; omega, rfl, rfl⟩⟩
set_option maxRecDepth 100000 in
set_option maxHeartbeats 16000000 in
theorem walkBatchTotals (A : Option Addr) (n c : Nat) (D : List Rc) (B : Option Addr) (m d : Nat) (F : List Rc) (w : World) (hn : D.length = n) (hc : n ≤ c) (hcm : c ≤ maxLen) (hA : RecR w A D) (hAl : ∀ a, A = some a → a.block < w.heap.size) (hm : F.length = m) (hd : m ≤ d) (hdm : d ≤ maxLen) (hB : RecR w B F) (hBl : ∀ a, B = some a → a.block < w.heap.size) (hT : True) :
    Calls Tryd.prog 3 #[.slice A n c, .slice B m d] w fun e w' => e = .returned (.bool true) ∧ Below w.heap.size w w' := by
  have HAL := Lib.hid alive_any
  obtain ⟨i0, hi0, hz0, hz1, hz2⟩ := info_parts recInfo
  obtain ⟨f1, h1⟩ : ∃ f1, fewB D = f1 := ⟨_, rfl⟩
  obtain ⟨f2, h2⟩ : ∃ f2, fewB F = f2 := ⟨_, rfl⟩
  have hf1 : ∀ W, Below w.heap.size w W → Calls Tryd.prog 5 #[.slice A n c] W fun e w' => e = .returned (.bool f1) ∧ Below W.heap.size W w' := fun W hW => h1 ▸ few_any (hA.below hW) hn
  have hf2 : ∀ W, Below w.heap.size w W → Calls Tryd.prog 5 #[.slice B m d] W fun e w' => e = .returned (.bool f2) ∧ Below W.heap.size W w' := fun W hW => h2 ▸ few_any (hB.below hW) hm
  have HF1 := Lib.hid hf1; have HF2 := Lib.hid hf2
  clear hf1 hf2
  cases f1 with
  | false =>
    clear h1 h2 hA hB hAl hBl
    go_enter Tryd.func3, Tryd.ntmps3
    go_wp2_with (first
      | (go_at_call 5; (with_reducible refine (HF1.out _ (Below.refl _ _)).mono ?_); rintro e w1 ⟨rfl, hb1⟩; have HB1 := Lib.hid hb1; clear hb1)
      | (go_at_call 6; (with_reducible refine (HAL.out _).mono ?_); rintro e w9 ⟨rfl, hb9⟩; have HB9 := Lib.hid (HB1.out.trans (hb9.mono HB1.out.size)); clear hb9))
    go_ret
    exact ⟨rfl, HB9.out⟩
  | true =>
    cases f2 with
    | false =>
      clear h1 h2 hA hB hAl hBl
      go_enter Tryd.func3, Tryd.ntmps3
      go_wp2_with (first
        | (go_at_call 5; (with_reducible refine (HF1.out _ (Below.refl _ _)).mono ?_); rintro e w1 ⟨rfl, hb1⟩; have HB1 := Lib.hid hb1; clear hb1)
        | (go_at_call 5; (with_reducible refine (HF2.out _ HB1.out).mono ?_); rintro e w2 ⟨rfl, hb2⟩; have HB2 := Lib.hid (HB1.out.trans (hb2.mono HB1.out.size)); clear hb2)
        | (go_at_call 6; (with_reducible refine (HAL.out _).mono ?_); rintro e w9 ⟨rfl, hb9⟩; have HB9 := Lib.hid (HB2.out.trans (hb9.mono HB2.out.size)); clear hb9))
      go_ret
      exact ⟨rfl, HB9.out⟩
    | true =>
      obtain ⟨hl1, -⟩ := few_sz h1
      obtain ⟨hl2, -⟩ := few_sz h2
      have hn40 : n ≤ 40 := by omega
      have hm40 : m ≤ 40 := by omega
      obtain ⟨N, hN⟩ : ∃ N, n + m = N := ⟨_, rfl⟩
      have hNi : (N : Int) = (n : Int) + (m : Int) := by omega
      have htt := fun k => tt_app D F k
      have hr1 := fun k => tt_ran D k
      have hr2 := fun k => tt_ran F k
      rw [hn] at hr1; rw [hm] at hr2
      obtain ⟨x0, hx0⟩ : ∃ x, tt D 0 = x := ⟨_, rfl⟩
      obtain ⟨y0, hy0⟩ : ∃ y, tt F 0 = y := ⟨_, rfl⟩
      obtain ⟨z0, hz0'⟩ : ∃ z, tt (D ++ F) 0 = z := ⟨_, rfl⟩
      have ez0 : z0 = x0 + y0 := by rw [← hx0, ← hy0, ← hz0']; exact htt 0
      have wz0 : IntKind.i64.wrap (x0 + y0) = z0 := by
        rw [ez0]
        refine IntWalk.i64_in _ ?_
        have a1 := hr1 0; have a2 := hr2 0
        rw [hx0] at a1; rw [hy0] at a2
        omega
      obtain ⟨x1, hx1⟩ : ∃ x, tt D 1 = x := ⟨_, rfl⟩
      obtain ⟨y1, hy1⟩ : ∃ y, tt F 1 = y := ⟨_, rfl⟩
      obtain ⟨z1, hz1'⟩ : ∃ z, tt (D ++ F) 1 = z := ⟨_, rfl⟩
      have ez1 : z1 = x1 + y1 := by rw [← hx1, ← hy1, ← hz1']; exact htt 1
      have wz1 : IntKind.i64.wrap (x1 + y1) = z1 := by
        rw [ez1]
        refine IntWalk.i64_in _ ?_
        have a1 := hr1 1; have a2 := hr2 1
        rw [hx1] at a1; rw [hy1] at a2
        omega
      obtain ⟨x2, hx2⟩ : ∃ x, tt D 2 = x := ⟨_, rfl⟩
      obtain ⟨y2, hy2⟩ : ∃ y, tt F 2 = y := ⟨_, rfl⟩
      obtain ⟨z2, hz2'⟩ : ∃ z, tt (D ++ F) 2 = z := ⟨_, rfl⟩
      have ez2 : z2 = x2 + y2 := by rw [← hx2, ← hy2, ← hz2']; exact htt 2
      have wz2 : IntKind.i64.wrap (x2 + y2) = z2 := by
        rw [ez2]
        refine IntWalk.i64_in _ ?_
        have a1 := hr1 2; have a2 := hr2 2
        rw [hx2] at a1; rw [hy2] at a2
        omega
      obtain ⟨x3, hx3⟩ : ∃ x, tt D 3 = x := ⟨_, rfl⟩
      obtain ⟨y3, hy3⟩ : ∃ y, tt F 3 = y := ⟨_, rfl⟩
      obtain ⟨z3, hz3'⟩ : ∃ z, tt (D ++ F) 3 = z := ⟨_, rfl⟩
      have ez3 : z3 = x3 + y3 := by rw [← hx3, ← hy3, ← hz3']; exact htt 3
      have wz3 : IntKind.i64.wrap (x3 + y3) = z3 := by
        rw [ez3]
        refine IntWalk.i64_in _ ?_
        have a1 := hr1 3; have a2 := hr2 3
        rw [hx3] at a1; rw [hy3] at a2
        omega
      obtain ⟨x4, hx4⟩ : ∃ x, tt D 4 = x := ⟨_, rfl⟩
      obtain ⟨y4, hy4⟩ : ∃ y, tt F 4 = y := ⟨_, rfl⟩
      obtain ⟨z4, hz4'⟩ : ∃ z, tt (D ++ F) 4 = z := ⟨_, rfl⟩
      have ez4 : z4 = x4 + y4 := by rw [← hx4, ← hy4, ← hz4']; exact htt 4
      have wz4 : IntKind.i64.wrap (x4 + y4) = z4 := by
        rw [ez4]
        refine IntWalk.i64_in _ ?_
        have a1 := hr1 4; have a2 := hr2 4
        rw [hx4] at a1; rw [hy4] at a2
        omega
      have HT1 : Hid (∀ W, Below w.heap.size w W → Calls Tryd.prog 7 #[.slice A n c] W fun e w' => e = .returned (.agg #[.int .i64 (n : Int), .int .i64 x0, .int .i64 x1, .int .i64 x2, .int .i64 x3, .int .i64 x4]) ∧ Below W.heap.size W w') := Lib.hid (fun W hW => by
        have h := totals_any (c := c) (hA.below hW) hn (by omega)
        simp only [totC, hx0, hx1, hx2, hx3, hx4] at h
        exact h)
      have HR1 : Hid (∀ W, Below w.heap.size w W → Calls Tryd.prog 8 #[.slice A n c] W fun e w' => e = .returned (.agg #[.int .i64 (n : Int), .int .i64 x0, .int .i64 x1, .int .i64 x2, .int .i64 x3, .int .i64 x4]) ∧ Below W.heap.size W w') := Lib.hid (fun W hW => by
        have h := refTotals_any (c := c) (hA.below hW) hn (by omega)
        simp only [totC, hx0, hx1, hx2, hx3, hx4] at h
        exact h)
      have HT2 : Hid (∀ W, Below w.heap.size w W → Calls Tryd.prog 7 #[.slice B m d] W fun e w' => e = .returned (.agg #[.int .i64 (m : Int), .int .i64 y0, .int .i64 y1, .int .i64 y2, .int .i64 y3, .int .i64 y4]) ∧ Below W.heap.size W w') := Lib.hid (fun W hW => by
        have h := totals_any (c := d) (hB.below hW) hm (by omega)
        simp only [totC, hy0, hy1, hy2, hy3, hy4] at h
        exact h)
      have HT3 : Hid (∀ W (G : Option Addr) (q : Nat), RecR W G (D ++ F) → Calls Tryd.prog 7 #[.slice G N q] W fun e w' => e = .returned (.agg #[.int .i64 (N : Int), .int .i64 z0, .int .i64 z1, .int .i64 z2, .int .i64 z3, .int .i64 z4]) ∧ Below W.heap.size W w') := Lib.hid (fun W G q hG => by
        have h := totals_any (c := q) hG (by rw [List.length_append, hn, hm, hN]) (by omega)
        simp only [totC, hz0', hz1', hz2', hz3', hz4'] at h
        exact h)
      have nq := neqTot_same (n : Int) x0 x1 x2 x3 x4
      have gq := guardTot
      have wN : IntKind.i64.wrap ((n : Int) + (m : Int)) = (N : Int) := by rw [← hNi]; exact IntWalk.i64_in _ (by omega)
      have HSA : Hid (∀ W, Below w.heap.size w W → ∀ ad, A = some ad → ∀ j u, (recl D)[j]? = some u → W.cell? (ad.add j) = some u) := Lib.hid (fun W hW => rec_src (hA.below hW))
      have HSB : Hid (∀ W, Below w.heap.size w W → ∀ ad, B = some ad → ∀ j u, (recl F)[j]? = some u → W.cell? (ad.add j) = some u) := Lib.hid (fun W hW => rec_src (hB.below hW))
      have HNA : Hid (A = none → n = 0) := Lib.hid (rec_nil hA hn)
      have HNB : Hid (B = none → m = 0) := Lib.hid (rec_nil hB hm)
      have HLD : Hid ((recl D).length = n * 12) := Lib.hid (by rw [recl_len, hn])
      have HLF : Hid ((recl F).length = m * 12) := Lib.hid (by rw [recl_len, hm])
      have HN := Lib.hid hN
      have HDF : Hid (recl (D ++ F) = recl D ++ recl F) := Lib.hid (recl_app D F)
      have HLN : Hid ((D ++ F).length = N) := Lib.hid (by rw [List.length_append, hn, hm, hN])
      clear hn hc hcm hA hAl hm hd hdm hB hBl htt hr1 hr2 hx0 hx1 hx2 hx3 hx4 hy0 hy1 hy2 hy3 hy4 hz0' hz1' hz2' hz3' hz4' ez0 ez1 ez2 ez3 ez4 h1 h2 hl1 hl2 hN hNi
      go_enter Tryd.func3, Tryd.ntmps3
      go_upto_region 4 with (first
        | (go_at_call 5; (with_reducible refine (HF1.out _ (Below.refl _ _)).mono ?_); rintro e w1 ⟨rfl, hb1⟩; have HB1 := Lib.hid hb1; clear hb1)
        | (go_at_call 5; (with_reducible refine (HF2.out _ HB1.out).mono ?_); rintro e w2 ⟨rfl, hb2⟩; have HB2 := Lib.hid (HB1.out.trans (hb2.mono HB1.out.size)); clear hb2)
        | (go_at_call 7; (with_reducible refine (HT1.out _ HB2.out).mono ?_); rintro e w3 ⟨rfl, hb3⟩; have HB3 := Lib.hid (HB2.out.trans (hb3.mono HB2.out.size)); clear hb3)
        | (go_at_call 7; (with_reducible refine (HT2.out _ HB3.out).mono ?_); rintro e w4 ⟨rfl, hb4⟩; have HB4 := Lib.hid (HB3.out.trans (hb4.mono HB3.out.size)); clear hb4))
      obtain ⟨g5, hg5⟩ : ∃ g5, w4.heap.size = g5 := ⟨_, rfl⟩
      have hx5 : Blk ((w4.alloc (.cells #[.int .i64 (n : Int), .int .i64 x0, .int .i64 x1, .int .i64 x2, .int .i64 x3, .int .i64 x4] 27)).alloc (.cells #[.int .i64 (m : Int), .int .i64 y0, .int .i64 y1, .int .i64 y2, .int .i64 y3, .int .i64 y4] 27)) g5 27 #[.int .i64 (n : Int), .int .i64 x0, .int .i64 x1, .int .i64 x2, .int .i64 x3, .int .i64 x4] := hg5 ▸ (Blk.new w4 _ _).alloc _
      have hy5 : Blk ((w4.alloc (.cells #[.int .i64 (n : Int), .int .i64 x0, .int .i64 x1, .int .i64 x2, .int .i64 x3, .int .i64 x4] 27)).alloc (.cells #[.int .i64 (m : Int), .int .i64 y0, .int .i64 y1, .int .i64 y2, .int .i64 y3, .int .i64 y4] 27)) (g5 + 1) 27 #[.int .i64 (m : Int), .int .i64 y0, .int .i64 y1, .int .i64 y2, .int .i64 y3, .int .i64 y4] := by
        have h := Blk.new (w4.alloc (.cells #[.int .i64 (n : Int), .int .i64 x0, .int .i64 x1, .int .i64 x2, .int .i64 x3, .int .i64 x4] 27)) 27 #[.int .i64 (m : Int), .int .i64 y0, .int .i64 y1, .int .i64 y2, .int .i64 y3, .int .i64 y4]
        rw [World.size_alloc, hg5] at h
        exact h
      have hb5 := (HB4.out.alloc HB4.out.size (.cells #[.int .i64 (n : Int), .int .i64 x0, .int .i64 x1, .int .i64 x2, .int .i64 x3, .int .i64 x4] 27)).alloc (by have := HB4.out.size; rw [World.size_alloc]; omega) (.cells #[.int .i64 (m : Int), .int .i64 y0, .int .i64 y1, .int .i64 y2, .int .i64 y3, .int .i64 y4] 27)
      generalize hW : (w4.alloc (.cells #[.int .i64 (n : Int), .int .i64 x0, .int .i64 x1, .int .i64 x2, .int .i64 x3, .int .i64 x4] 27)).alloc (.cells #[.int .i64 (m : Int), .int .i64 y0, .int .i64 y1, .int .i64 y2, .int .i64 y3, .int .i64 y4] 27) = W5 at hx5 hy5 hb5 ⊢
      rw [hg5]
      have HX5 := Lib.hid hx5; have HY5 := Lib.hid hy5; have HB5 := Lib.hid hb5
      clear hW hg5 hx5 hy5 hb5
      have HO5 := Lib.hid (own_lit12 W5)
      have HL5 := Lib.hid (below_lit W5 (.cells #[] 33))
      have HBL := Lib.hid (HB5.out.trans (HL5.out.mono HB5.out.size))
      go_upto_region 5 with (first
        | (at_builtin; refine wpList_append_any rfl (.tmp 22) (.tmp 23) 22 rfl W5.heap.size 33 i0 _ 12 112 Tryd.underlying22 hi0 hz0 hz1 hz2 rfl (by decide) _ 0 [] rfl HO5.out A n c (recl D) rfl HLD.out HNA.out (HSA.out _ HBL.out) (recl_one _) (by unfold maxLen; omega) (by omega) (by simp) ?_; intro v6 w6 q1 q2; have HO6 : Hid (w6.ownsRow W5.heap.size 33 12 v6 n (recl D)) := Lib.hid (by rw [Nat.zero_add, List.nil_append] at q1; exact q1); have hb6 : Below W5.heap.size W5 w6 := HL5.out.grown q2 HL5.out.size (fun k hk => (World.ownsRow.lt HO5.out k hk).1); have HL6 := Lib.hid hb6; have HB6 := Lib.hid (HB5.out.trans (hb6.mono HB5.out.size)); clear q1 q2 hb6)
        | (at_builtin; refine wpList_append_any rfl (.tmp 24) (.tmp 25) 22 rfl W5.heap.size 33 i0 _ 12 112 Tryd.underlying22 hi0 hz0 hz1 hz2 rfl (by decide) _ n (recl D) rfl HO6.out B m d (recl F) rfl HLF.out HNB.out (HSB.out _ HB6.out) (recl_one _) (by unfold maxLen; omega) (by omega) HL6.out.size ?_; intro v7 w7 q1 q2; have hb7 : Below W5.heap.size W5 w7 := HL6.out.grown q2 HL6.out.size (fun k hk => (World.ownsRow.lt HO6.out k hk).1); have HL7 := Lib.hid hb7; have HB7 := Lib.hid (HB5.out.trans (hb7.mono HB5.out.size)); rw [HN.out, ← HDF.out] at q1; obtain ⟨G, q, rfl, -, -, hG, -⟩ := rec_own q1 HLN.out; have HG := Lib.hid hG; clear q1 q2 hb7 hG)
        | (go_at_call 7; (with_reducible refine (HT3.out _ _ _ HG.out).mono ?_); rintro e w8 ⟨rfl, hb8⟩; have HL8 := Lib.hid (HL7.out.trans (hb8.mono HL7.out.size)); clear hb8))
      obtain ⟨g7, hg7⟩ : ∃ g7, w8.heap.size = g7 := ⟨_, rfl⟩
      have hz8 : Blk (w8.alloc (.cells #[.int .i64 (N : Int), .int .i64 z0, .int .i64 z1, .int .i64 z2, .int .i64 z3, .int .i64 z4] 27)) g7 27 #[.int .i64 (N : Int), .int .i64 z0, .int .i64 z1, .int .i64 z2, .int .i64 z3, .int .i64 z4] := hg7 ▸ Blk.new w8 _ _
      have hl8 := HL8.out.alloc HL8.out.size (.cells #[.int .i64 (N : Int), .int .i64 z0, .int .i64 z1, .int .i64 z2, .int .i64 z3, .int .i64 z4] 27)
      have hx8 := HX5.out.below hl8 HX5.out.lt
      have hy8 := HY5.out.below hl8 HY5.out.lt
      generalize hW : w8.alloc (.cells #[.int .i64 (N : Int), .int .i64 z0, .int .i64 z1, .int .i64 z2, .int .i64 z3, .int .i64 z4] 27) = W8 at hz8 hl8 hx8 hy8 ⊢
      rw [hg7]
      have HZ8 := Lib.hid hz8; have HX8 := Lib.hid hx8; have HY8 := Lib.hid hy8
      have HB8 := Lib.hid (HB5.out.trans (hl8.mono HB5.out.size))
      have a0 := cell_regrown (hx8.cell 0); have a1 := cell_regrown (hx8.cell 1); have a2 := cell_regrown (hx8.cell 2); have a3 := cell_regrown (hx8.cell 3); have a4 := cell_regrown (hx8.cell 4); have a5 := cell_regrown (hx8.cell 5)
      have b0 := cell_regrown (hy8.cell 0); have c0 := cell_regrown (hz8.cell 0)
      simp at a0 a1 a2 a3 a4 a5 b0 c0
      clear hW hg7 hz8 hl8 hx8 hy8
      refine wp_region_quiet_below (by kernel_rfl) (by kernel_rfl) ?_
      iterate 14 (go_big_quiet_step (with_reducible exact Calls.regrown_of (HR1.out _ (HB8.out.trans ((below_regrown _ _ _).mono HB8.out.size)))))
      refine wpQuiet_nil ?_
      intro Wq hw'
      have hbq : Below W8.heap.size W8 Wq := by
        obtain ⟨⟨dq, osq⟩, hw''⟩ := hw'
        rw [hw'']; exact below_regrown _ _ _
      clear hw' a0 a1 a2 a3 a4 a5 b0 c0
      have HZq := Lib.hid (HZ8.out.below hbq HZ8.out.lt); have HXq := Lib.hid (HX8.out.below hbq HX8.out.lt); have HYq := Lib.hid (HY8.out.below hbq HY8.out.lt)
      have HBq := Lib.hid (HB8.out.trans (hbq.mono HB8.out.size))
      clear hbq
      go_wp2_with fail
      go_loopw [8] (fun iv wr => ∃ k : Nat, iv = .int .i64 k ∧ k ≤ 5 ∧ Hid (Blk wr g7 27 #[.int .i64 (N : Int), .int .i64 z0, .int .i64 z1, .int .i64 z2, .int .i64 z3, .int .i64 z4]) ∧ Hid (Blk wr g5 27 #[.int .i64 (n : Int), .int .i64 x0, .int .i64 x1, .int .i64 x2, .int .i64 x3, .int .i64 x4]) ∧ Hid (Blk wr (g5 + 1) 27 #[.int .i64 (m : Int), .int .i64 y0, .int .i64 y1, .int .i64 y2, .int .i64 y3, .int .i64 y4]) ∧ Hid (Below w.heap.size w wr)) (fun iv _ => 5 - (intOf iv).toNat)
      case atStart => exact ⟨0, rfl, by omega, HZq, HXq, HYq, HBq⟩
      case round =>
        obtain ⟨k, rfl, hk, HZ, HX, HY, HB⟩ := hrel
        by_cases hlt : k < 5
        · have u1 := HX.out.cell 1; have v1 := HY.out.cell 1; have s1 := HZ.out.cell 1
          have u2 := HX.out.cell 2; have v2 := HY.out.cell 2; have s2 := HZ.out.cell 2
          have u3 := HX.out.cell 3; have v3 := HY.out.cell 3; have s3 := HZ.out.cell 3
          have u4 := HX.out.cell 4; have v4 := HY.out.cell 4; have s4 := HZ.out.cell 4
          have u5 := HX.out.cell 5; have v5 := HY.out.cell 5; have s5 := HZ.out.cell 5
          simp at u1 v1 s1 u2 v2 s2 u3 v3 s3 u4 v4 s4 u5 v5 s5
          have hkc : k = 0 ∨ k = 1 ∨ k = 2 ∨ k = 3 ∨ k = 4 := by omega
          rcases hkc with rfl | rfl | rfl | rfl | rfl
          all_goals
            go_wp2_with fail
            go_quiet (fail)
            go_wp2_with fail
            go_roundw
            case rel => exact ⟨_, rfl, by decide, Lib.hid (HZ.out.drewN _), Lib.hid (HX.out.drewN _), Lib.hid (HY.out.drewN _), Lib.hid (below_drewN HB.out _)⟩
            case measure => simp [intOf]
        · obtain rfl : k = 5 := by omega
          go_wp2_with (go_at_call 6; (with_reducible refine (HAL.out _).mono ?_); rintro e w9 ⟨rfl, hb9⟩; have HB9 := Lib.hid (HB.out.trans (hb9.mono HB.out.size)); clear hb9)
          go_ret
          exact ⟨rfl, HB9.out⟩
end Go.Proofs.YtobkafkknbdacaaDoor.Va
