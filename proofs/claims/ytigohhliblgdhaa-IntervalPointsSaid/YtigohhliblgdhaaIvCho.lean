/- Walk of the reference: the choice between the limits. -/
import Derived.Test.YtigohhliblgdhaaIvLim
import Derived.StillTactics
namespace Go.Proofs.Ytigohhliblgdhaa
open Go.RowKit

/-- What the reference asks of an instant. -/
def chF (ig ib : Bool) (x y : Bool) : Bool := x && (ig || (y == ib))
theorem refIn_is (A : Option Addr) (n c : Nat) (l : List Pd) (t : Int) (v : Bool) (hv : mem l t = v) (w : World) (hA : PR w A l) (hn : l.length = n) (h5 : n ≤ 100000) (hc : n ≤ c) :
    Calls Try.prog 42 #[.slice A n c, .int .i64 t] w fun e w' => e = .returned (.bool v) ∧ Below w.heap.size w w' := by
  subst hv; exact refIn_any A n c l t w hA hn h5 hc
theorem own_form2 {w : World} {base e size n : Nat} {v : Value} {xs : List Value} (h : w.ownsRow base e size v n xs) (hn : 0 < n) : ∃ g c, v = .slice (some ⟨g, 0, none⟩) n c ∧ n ≤ c ∧ c ≤ maxLen ∧ base ≤ g ∧ g < w.heap.size := by
  have h0 := h
  obtain ⟨_, h2⟩ := h
  rcases h2 with ⟨hv, hz⟩ | ⟨g, c, cur, hv, hg, hh, hnc, hcm, hcs, htk⟩
  · omega
  · subst hv
    exact ⟨g, c, rfl, hnc, hcm, hg, own_lt h0⟩
theorem cl_last (o : List Pd) (a b : Int) : (cl (o ++ [(a, b)]))[o.length * 2]? = some (.int .i64 a) ∧ (cl (o ++ [(a, b)]))[o.length * 2 + 1]? = some (.int .i64 b) := by
  have := cl_at (o ++ [(a, b)]) o.length (by simp)
  simpa [List.getD] using this
theorem cl_set (o : List Pd) (a b y : Int) : (cl (o ++ [(a, b)])).set (o.length * 2 + 1) (.int .i64 y) = cl (o ++ [(a, y)]) := by
  rw [cl_append, cl_append, List.set_append_right _ _ (by rw [cl_length]; omega), cl_length, show o.length * 2 + 1 - o.length * 2 = 1 by omega]
  rfl
theorem chN_step {M : Int → Bool} {l : List Int} {i : Nat} {o : List Pd} {x y : Int} (h : i + 1 < l.length) (ho : chN M l i = o) (hx : l.getD i 0 = x) (hy : l.getD (i + 1) 0 = y) : chN M l (i + 1) = chS M o x y := by
  show (if i + 1 < l.length then chS M (chN M l i) (l.getD i 0) (l.getD (i + 1) 0) else chN M l i) = _
  rw [if_pos h, ho, hx, hy]
set_option maxHeartbeats 8000000 in
theorem choose_any (A B : Option Addr) (m n c c' : Nat) (la lb : List Pd) (ig ib : Bool) (w : World) (hA : PR w A la) (hB : PR w B lb) (hm : la.length = m) (hn : lb.length = n) (hmc : m ≤ c) (hnc : n ≤ c') (h5 : m + n ≤ 1000) :
    Calls Try.prog 35 #[.slice A m c, .slice B n c', .bool ig, .bool ib] w (PdOut (chA (fun t => chF ig ib (mem la t) (mem lb t)) (lim (lim [] la) lb)) w) := by
  obtain ⟨i0, hi0, hz0, hz1, hz2⟩ := info_parts periodInfo
  have HA := Lib.hid hA; have HB := Lib.hid hB; have HM := Lib.hid hm; have HN := Lib.hid hn
  have hl1 := lim_length la []
  have hl2 := lim_length lb (lim [] la)
  have HL1 : Hid ((lim [] la).length ≤ 2 * m) := Lib.hid (by rw [← hm]; simpa using hl1)
  have hlen : (lim (lim [] la) lb).length ≤ 2000 := by have := HL1.out; omega
  clear hA hB hm hn hl1 hl2
  obtain ⟨M, hM⟩ : ∃ M : Int → Bool, (fun t => chF ig ib (mem la t) (mem lb t)) = M := ⟨_, rfl⟩
  have HMM : Hid (∀ t, M t = chF ig ib (mem la t) (mem lb t)) := Lib.hid (fun t => by rw [← hM])
  rw [hM]
  clear hM
  obtain ⟨l, hl⟩ : ∃ l, lim (lim [] la) lb = l := ⟨_, rfl⟩
  rw [hl] at hlen ⊢
  have HL := Lib.hid hl
  clear hl
  obtain ⟨N, hN⟩ : ∃ N, l.length = N := ⟨_, rfl⟩
  have HNN := Lib.hid hN
  rw [hN] at hlen
  clear hN
  go_enter Try.func35, Try.ntmps35
  go_wp2_with fail
  refine (limits_any none A 0 m 0 c [] la w IR.nil HA.out rfl HM.out (Nat.le_refl _) hmc (by omega)).mono ?_
  rintro e w1 ⟨R1, r1, rfl, hr1, hI1, hb1⟩
  have HI1 := Lib.hid hI1; clear hI1
  have HC2 := Lib.hid (limits_any R1 B _ n r1 c' (lim [] la) lb w1 HI1.out (HB.out.below hb1) rfl HN.out hr1 hnc (by have := HL1.out; omega))
  rw [HL.out] at HC2
  go_wp2_with fail
  refine HC2.out.mono ?_
  rintro e w2 ⟨R, r, rfl, hr, hI2, hb2⟩
  have hb : Below w.heap.size w w2 := hb1.trans (hb2.mono hb1.size)
  have HI := Lib.hid hI2
  rw [HNN.out] at hr ⊢
  clear hI2 hb1 hb2 HI1 HL1 hr1 HC2 HL
  have hbs := hb.size
  go_wp2
  go_loopw [10, 11] (fun v i wr => ∃ (k : Nat) (o : List Pd), (k = 0 ∨ k + 1 ≤ N) ∧ i = .int .i64 k ∧ o.length ≤ k ∧ wr.ownsRow w2.heap.size 23 2 v o.length (cl o) ∧ Below w2.heap.size w2 wr ∧ Hid (chN M l k = o)) (fun _ i _ => N - (intOf i).toNat)
  case atStart => exact ⟨0, [], .inl rfl, rfl, by simp, World.ownsRow_nil _ _ _ _, Below.refl _ _, Lib.hid rfl⟩
  case round =>
    obtain ⟨k, o, hk, rfl, ho, hown, hbr, HE⟩ := hrel
    have hs := hbr.size
    obtain ⟨A1, c1, rfl, hc1, hm1, _⟩ := pr_own hown rfl
    by_cases hlt : k + 1 < N
    · have hlt1 : (k : Int) + 1 < (N : Int) := by omega
      have hlt0 : (k : Int) < (N : Int) := by omega
      have h00 : (0 : Int) ≤ (k : Int) := by omega
      have h01 : (0 : Int) ≤ (k : Int) + 1 := by omega
      obtain ⟨bk, off, rfl, hbl, d0⟩ := HI.out k (by rw [HNN.out]; omega)
      obtain ⟨bk2, off2, hbe, _, d1⟩ := HI.out (k + 1) (by rw [HNN.out]; omega)
      obtain ⟨rfl, rfl⟩ : bk = bk2 ∧ off = off2 := by injection hbe with h; injection h with h1 h2; exact ⟨h1, h2⟩
      clear hbe
      have e0 := (hbr.cell (p := ⟨bk, off + k, none⟩) hbl).trans d0
      have e1 := (hbr.cell (p := ⟨bk, off + (k + 1), none⟩) hbl).trans d1
      obtain ⟨x, hx⟩ : ∃ x, l.getD k 0 = x := ⟨_, rfl⟩
      obtain ⟨y, hy⟩ : ∃ y, l.getD (k + 1) 0 = y := ⟨_, rfl⟩
      have HS : Hid (chN M l (k + 1) = chS M o x y) := Lib.hid (chN_step (by rw [HNN.out]; exact hlt) HE.out hx hy)
      rw [hx] at e0
      rw [hy] at e1
      clear hx hy d0 d1 HE
      have hAr : PR wr A la := (HA.out.below hb).below hbr
      have hBr : PR wr B lb := (HB.out.below hb).below hbr
      have HAr := Lib.hid hAr; have HBr := Lib.hid hBr
      clear hAr hBr
      have hblr : bk < wr.heap.size := Nat.lt_of_lt_of_le hbl hs
      cases hma : mem la x
      · have HC1 := Lib.hid (refIn_is A m c la x _ hma wr HAr.out HM.out (by omega) hmc)
        have HMx : Hid (M x = false) := Lib.hid (by rw [HMM.out, hma]; rfl)
        have HS2 : Hid (chN M l (k + 1) = o) := Lib.hid (by rw [HS.out, chS_no HMx.out])
        clear hma HS
        go_wp2_with (go_at_call 42; (with_reducible refine HC1.out.mono ?_); rintro e w3 ⟨rfl, hb3⟩; have hown3 := own_below hown hb3; have hb4 : Below w2.heap.size w2 w3 := hbr.trans (hb3.mono hs))
        go_roundw
        case rel => exact ⟨k + 1, o, .inr (by omega), by go_num, by omega, hown3, hb4, HS2⟩
        case measure => simp [intOf]; omega
      · have HC1 := Lib.hid (refIn_is A m c la x _ hma wr HAr.out HM.out (by omega) hmc)
        cases ig
        · have HI2 := Lib.hid (fun wx h => refIn_any B n c' lb x wx h HN.out (by omega) hnc)
          have HMy : Hid (M x = (mem lb x == ib)) := Lib.hid (by rw [HMM.out, hma]; rfl)
          generalize mem lb x = vb at *
          have hvb : (vb == ib) = false ∨ (vb == ib) = true := by cases (vb == ib) <;> simp
          clear hma
          rcases hvb with hvb | hvb
          · have HS2 : Hid (chN M l (k + 1) = o) := Lib.hid (by rw [HS.out, chS_no]; rw [HMy.out]; revert hvb; cases vb <;> cases ib <;> simp)
            clear HS HMy
            go_wp2_with (first | (go_at_call 42; (with_reducible refine HC1.out.mono ?_); rintro e w3 ⟨rfl, hb3⟩; have hown3 := own_below hown hb3; have hb4 : Below w2.heap.size w2 w3 := hbr.trans (hb3.mono hs); have hs4 := hb4.size; have f0 := (hb3.cell (p := ⟨bk, off + k, none⟩) hblr).trans e0; have f1 := (hb3.cell (p := ⟨bk, off + (k + 1), none⟩) hblr).trans e1; have hbl3 : bk < w3.heap.size := Nat.lt_of_lt_of_le hblr hb3.size; have HC2 := Lib.hid (HI2.out w3 (HBr.out.below hb3)); clear e0 e1 hown hb3) | (go_at_call 42; (with_reducible refine HC2.out.mono ?_); rintro e w5 ⟨rfl, hb5⟩; have hown5 := own_below hown3 hb5; have hb6 : Below w2.heap.size w2 w5 := hb4.trans (hb5.mono hs4); have hs6 := hb6.size; have g0 := (hb5.cell (p := ⟨bk, off + k, none⟩) hbl3).trans f0; have g1 := (hb5.cell (p := ⟨bk, off + (k + 1), none⟩) hbl3).trans f1; have hbl5 : bk < w5.heap.size := Nat.lt_of_lt_of_le hbl3 hb5.size; clear f0 f1 hown3 hb5))
            go_roundw
            case rel => exact ⟨k + 1, o, .inr (by omega), by go_num, by omega, hown5, hb6, HS2⟩
            case measure => simp [intOf]; omega
          · have HMx : Hid (M x = true) := Lib.hid (by rw [HMy.out]; revert hvb; cases vb <;> cases ib <;> simp)
            clear HMy
            go_wp2_with (first | (go_at_call 42; (with_reducible refine HC1.out.mono ?_); rintro e w3 ⟨rfl, hb3⟩; have hown3 := own_below hown hb3; have hb4 : Below w2.heap.size w2 w3 := hbr.trans (hb3.mono hs); have hs4 := hb4.size; have f0 := (hb3.cell (p := ⟨bk, off + k, none⟩) hblr).trans e0; have f1 := (hb3.cell (p := ⟨bk, off + (k + 1), none⟩) hblr).trans e1; have hbl3 : bk < w3.heap.size := Nat.lt_of_lt_of_le hblr hb3.size; have HC2 := Lib.hid (HI2.out w3 (HBr.out.below hb3)); clear e0 e1 hown hb3) | (go_at_call 42; (with_reducible refine HC2.out.mono ?_); rintro e w5 ⟨rfl, hb5⟩; have hown5 := own_below hown3 hb5; have hb6 : Below w2.heap.size w2 w5 := hb4.trans (hb5.mono hs4); have hs6 := hb6.size; have g0 := (hb5.cell (p := ⟨bk, off + k, none⟩) hbl3).trans f0; have g1 := (hb5.cell (p := ⟨bk, off + (k + 1), none⟩) hbl3).trans f1; have hbl5 : bk < w5.heap.size := Nat.lt_of_lt_of_le hbl3 hb5.size; clear f0 f1 hown3 hb5))
            rcases List.eq_nil_or_concat o with rfl | ⟨o1, q, rfl⟩
            · have HS2 : Hid (chN M l (k + 1) = [] ++ [(x, y)]) := Lib.hid (by rw [HS.out, chS_new HMx.out]; rfl)
              go_quiet (fail)
              go_wp2
              have wrk : IntKind.i64.wrap ((k : Int) + 1) = (k : Int) + 1 := IntWalk.i64_in _ (by omega)
              have tnk : ((k : Int) + 1).toNat = k + 1 := by omega
              go_region_held3 (fun w' => w'.cell? ⟨bk, off + k, none⟩ = some (.int .i64 x) ∧ w'.cell? ⟨bk, off + (k + 1), none⟩ = some (.int .i64 y)) (first
                | go_keep
                | (go_split_ands
                   refine ⟨?_, ?_⟩
                   · (rw [hgrow.cell_far _ (by simp; omega) (own_not hown5 (by omega))]; assumption)
                   · (rw [hgrow.cell_far _ (by simp; omega) (own_not hown5 (by omega))]; assumption)))
                ((refine step_append_lies _ (by rfl) _ _ _ (by rfl) w2.heap.size 23 i0 _ 2 16 Try.underlying31 hi0 hz0 hz1 hz2 rfl (by omega) _ _ _ (by rfl) (own_drew (hown5.alloc _) _)
                    ⟨w5.heap.size, 0, none⟩ 1 1 [.int .i64 x, .int .i64 y] (by rfl) (by rfl) (World.news_of_block (cs := #[.int .i64 x, .int .i64 y]) (t := 23) (fr := (0, 0)) (heap_alloc_new w5 _)) (by simp [Value.oneCell'])
                    (by omega) (by unfold maxLen; omega) (by omega) (by simp; omega) (w5.heap.size + 1) (by simp) ?_; intro gg cap wA hownA hgrow hat hltA))
              clear wrk tnk
              have hb9 : Below w2.heap.size w2 wA := ((below_drewN hb6 _).alloc hs6 _).grown hgrow (by simp; omega) (fun g hg' => by have := (World.ownsRow.lt hown5 g hg').1; omega)
              go_wp2
              go_roundw
              case rel => exact ⟨k + 1, _, .inr (by omega), by go_num, by simp at ho ⊢ <;> omega, by rw [cl_append]; simpa [cl] using hownA, hb9, HS2⟩
              case measure => simp [intOf]; omega
            · rw [List.concat_eq_append] at *
              obtain ⟨qa, qb⟩ := q
              have hl2 : (o1 ++ [(qa, qb)]).length = o1.length + 1 := by simp
              obtain ⟨g, cg, hve, hcg, hcm, hgb, hgl⟩ := own_form2 hown5 (by rw [hl2]; omega)
              have hq1 := (World.ownsRow.cellAt (hve ▸ hown5) (o1.length * 2 + 1) (by rw [hl2]; omega)).trans (cl_last o1 qa qb).2
              have hf1 := World.ownsRow.frozenAt (hve ▸ hown5) (o1.length * 2 + 1)
              obtain ⟨rfl, rfl⟩ : A1 = some ⟨g, 0, none⟩ ∧ c1 = cg := by injection hve with h1 h2 h3; exact ⟨h1, h3⟩
              rw [hl2] at hown5 ho ⊢
              clear hve
              by_cases hqx : qb = x
              · have hqb : (qb == x) = true := by simp [hqx]
                have HS2 : Hid (chN M l (k + 1) = o1 ++ [(qa, y)]) := Lib.hid (by rw [HS.out, chS_grow HMx.out hqx])
                clear hqx
                have wrm : IntKind.i64.wrap (((o1.length + 1 : Nat) : Int) - 1) = (o1.length : Int) := by rw [show ((o1.length + 1 : Nat) : Int) - 1 = (o1.length : Int) by omega]; exact IntWalk.i64_in _ (by omega)
                have hpos : decide ((0 : Int) < ((o1.length + 1 : Nat) : Int)) = true := decide_eq_true (by omega)
                have hmn : (o1.length : Int) < ((o1.length + 1 : Nat) : Int) := by omega
                go_quiet (fail)
                go_wp2
                have hst := (World.ownsRow.stored (own_drew hown5 nq) (o1.length * 2 + 1) (.int .i64 y)).1
                rw [cl_set] at hst
                go_roundw
                case rel => exact ⟨k + 1, _, .inr (by omega), by go_num, by simp at ho ⊢; omega, by simpa using hst, (below_drewN hb6 _).setCell hgb _, HS2⟩
                case measure => simp [intOf]; omega
              · have hqb : (qb == x) = false := by simp [hqx]
                have HS2 : Hid (chN M l (k + 1) = (o1 ++ [(qa, qb)]) ++ [(x, y)]) := Lib.hid (by rw [HS.out, chS_add HMx.out hqx])
                clear hqx
                have wrm : IntKind.i64.wrap (((o1.length + 1 : Nat) : Int) - 1) = (o1.length : Int) := by rw [show ((o1.length + 1 : Nat) : Int) - 1 = (o1.length : Int) by omega]; exact IntWalk.i64_in _ (by omega)
                have hpos : decide ((0 : Int) < ((o1.length + 1 : Nat) : Int)) = true := decide_eq_true (by omega)
                have hmn : (o1.length : Int) < ((o1.length + 1 : Nat) : Int) := by omega
                go_quiet (fail)
                go_wp2
                clear wrm hpos hmn hqb hq1 hf1
                have wrk : IntKind.i64.wrap ((k : Int) + 1) = (k : Int) + 1 := IntWalk.i64_in _ (by omega)
                have tnk : ((k : Int) + 1).toNat = k + 1 := by omega
                go_region_held3 (fun w' => w'.cell? ⟨bk, off + k, none⟩ = some (.int .i64 x) ∧ w'.cell? ⟨bk, off + (k + 1), none⟩ = some (.int .i64 y)) (first
                  | go_keep
                  | (go_split_ands
                     refine ⟨?_, ?_⟩
                     · (rw [hgrow.cell_far _ (by simp; omega) (own_not hown5 (by omega))]; assumption)
                     · (rw [hgrow.cell_far _ (by simp; omega) (own_not hown5 (by omega))]; assumption)))
                  ((refine step_append_lies _ (by rfl) _ _ _ (by rfl) w2.heap.size 23 i0 _ 2 16 Try.underlying31 hi0 hz0 hz1 hz2 rfl (by omega) _ _ _ (by rfl) (own_drew (hown5.alloc _) _)
                      ⟨w5.heap.size, 0, none⟩ 1 1 [.int .i64 x, .int .i64 y] (by rfl) (by rfl) (World.news_of_block (cs := #[.int .i64 x, .int .i64 y]) (t := 23) (fr := (0, 0)) (heap_alloc_new w5 _)) (by simp [Value.oneCell'])
                      (by omega) (by unfold maxLen; omega) (by omega) (by simp; omega) (w5.heap.size + 1) (by simp) ?_; intro gg cap wA hownA hgrow hat hltA))
                clear wrk tnk
                have hb9 : Below w2.heap.size w2 wA := ((below_drewN hb6 _).alloc hs6 _).grown hgrow (by simp; omega) (fun g hg' => by have := (World.ownsRow.lt hown5 g hg').1; omega)
                go_wp2
                go_roundw
                case rel => exact ⟨k + 1, _, .inr (by omega), by go_num, by simp at ho ⊢ <;> omega, by rw [cl_append]; simpa [cl] using hownA, hb9, HS2⟩
                case measure => simp [intOf]; omega
        · have HMx : Hid (M x = true) := Lib.hid (by rw [HMM.out, hma]; rfl)
          clear hma
          go_wp2_with (first | (go_at_call 42; (with_reducible refine HC1.out.mono ?_); rintro e w3 ⟨rfl, hb3⟩; have hown3 := own_below hown hb3; have hb4 : Below w2.heap.size w2 w3 := hbr.trans (hb3.mono hs); have hs4 := hb4.size; have f0 := (hb3.cell (p := ⟨bk, off + k, none⟩) hblr).trans e0; have f1 := (hb3.cell (p := ⟨bk, off + (k + 1), none⟩) hblr).trans e1; have hbl3 : bk < w3.heap.size := Nat.lt_of_lt_of_le hblr hb3.size; clear e0 e1 hown hb3))
          rcases List.eq_nil_or_concat o with rfl | ⟨o1, q, rfl⟩
          · have HS2 : Hid (chN M l (k + 1) = [] ++ [(x, y)]) := Lib.hid (by rw [HS.out, chS_new HMx.out]; rfl)
            go_quiet (fail)
            go_wp2
            have wrk : IntKind.i64.wrap ((k : Int) + 1) = (k : Int) + 1 := IntWalk.i64_in _ (by omega)
            have tnk : ((k : Int) + 1).toNat = k + 1 := by omega
            go_region_held3 (fun w' => w'.cell? ⟨bk, off + k, none⟩ = some (.int .i64 x) ∧ w'.cell? ⟨bk, off + (k + 1), none⟩ = some (.int .i64 y)) (first
              | go_keep
              | (go_split_ands
                 refine ⟨?_, ?_⟩
                 · (rw [hgrow.cell_far _ (by simp; omega) (own_not hown3 (by omega))]; assumption)
                 · (rw [hgrow.cell_far _ (by simp; omega) (own_not hown3 (by omega))]; assumption)))
              ((refine step_append_lies _ (by rfl) _ _ _ (by rfl) w2.heap.size 23 i0 _ 2 16 Try.underlying31 hi0 hz0 hz1 hz2 rfl (by omega) _ _ _ (by rfl) (own_drew (hown3.alloc _) _)
                  ⟨w3.heap.size, 0, none⟩ 1 1 [.int .i64 x, .int .i64 y] (by rfl) (by rfl) (World.news_of_block (cs := #[.int .i64 x, .int .i64 y]) (t := 23) (fr := (0, 0)) (heap_alloc_new w3 _)) (by simp [Value.oneCell'])
                  (by omega) (by unfold maxLen; omega) (by omega) (by simp; omega) (w3.heap.size + 1) (by simp) ?_; intro gg cap wA hownA hgrow hat hltA))
            clear wrk tnk
            have hb9 : Below w2.heap.size w2 wA := ((below_drewN hb4 _).alloc hs4 _).grown hgrow (by simp; omega) (fun g hg' => by have := (World.ownsRow.lt hown3 g hg').1; omega)
            go_wp2
            go_roundw
            case rel => exact ⟨k + 1, _, .inr (by omega), by go_num, by simp at ho ⊢ <;> omega, by rw [cl_append]; simpa [cl] using hownA, hb9, HS2⟩
            case measure => simp [intOf]; omega
          · rw [List.concat_eq_append] at *
            obtain ⟨qa, qb⟩ := q
            have hl2 : (o1 ++ [(qa, qb)]).length = o1.length + 1 := by simp
            obtain ⟨g, cg, hve, hcg, hcm, hgb, hgl⟩ := own_form2 hown3 (by rw [hl2]; omega)
            have hq1 := (World.ownsRow.cellAt (hve ▸ hown3) (o1.length * 2 + 1) (by rw [hl2]; omega)).trans (cl_last o1 qa qb).2
            have hf1 := World.ownsRow.frozenAt (hve ▸ hown3) (o1.length * 2 + 1)
            obtain ⟨rfl, rfl⟩ : A1 = some ⟨g, 0, none⟩ ∧ c1 = cg := by injection hve with h1 h2 h3; exact ⟨h1, h3⟩
            rw [hl2] at hown3 ho ⊢
            clear hve
            by_cases hqx : qb = x
            · have hqb : (qb == x) = true := by simp [hqx]
              have HS2 : Hid (chN M l (k + 1) = o1 ++ [(qa, y)]) := Lib.hid (by rw [HS.out, chS_grow HMx.out hqx])
              clear hqx
              have wrm : IntKind.i64.wrap (((o1.length + 1 : Nat) : Int) - 1) = (o1.length : Int) := by rw [show ((o1.length + 1 : Nat) : Int) - 1 = (o1.length : Int) by omega]; exact IntWalk.i64_in _ (by omega)
              have hpos : decide ((0 : Int) < ((o1.length + 1 : Nat) : Int)) = true := decide_eq_true (by omega)
              have hmn : (o1.length : Int) < ((o1.length + 1 : Nat) : Int) := by omega
              go_quiet (fail)
              go_wp2
              have hst := (World.ownsRow.stored (own_drew hown3 nq) (o1.length * 2 + 1) (.int .i64 y)).1
              rw [cl_set] at hst
              go_roundw
              case rel => exact ⟨k + 1, _, .inr (by omega), by go_num, by simp at ho ⊢; omega, by simpa using hst, (below_drewN hb4 _).setCell hgb _, HS2⟩
              case measure => simp [intOf]; omega
            · have hqb : (qb == x) = false := by simp [hqx]
              have HS2 : Hid (chN M l (k + 1) = (o1 ++ [(qa, qb)]) ++ [(x, y)]) := Lib.hid (by rw [HS.out, chS_add HMx.out hqx])
              clear hqx
              have wrm : IntKind.i64.wrap (((o1.length + 1 : Nat) : Int) - 1) = (o1.length : Int) := by rw [show ((o1.length + 1 : Nat) : Int) - 1 = (o1.length : Int) by omega]; exact IntWalk.i64_in _ (by omega)
              have hpos : decide ((0 : Int) < ((o1.length + 1 : Nat) : Int)) = true := decide_eq_true (by omega)
              have hmn : (o1.length : Int) < ((o1.length + 1 : Nat) : Int) := by omega
              go_quiet (fail)
              go_wp2
              clear wrm hpos hmn hqb hq1 hf1
              have wrk : IntKind.i64.wrap ((k : Int) + 1) = (k : Int) + 1 := IntWalk.i64_in _ (by omega)
              have tnk : ((k : Int) + 1).toNat = k + 1 := by omega
              go_region_held3 (fun w' => w'.cell? ⟨bk, off + k, none⟩ = some (.int .i64 x) ∧ w'.cell? ⟨bk, off + (k + 1), none⟩ = some (.int .i64 y)) (first
                | go_keep
                | (go_split_ands
                   refine ⟨?_, ?_⟩
                   · (rw [hgrow.cell_far _ (by simp; omega) (own_not hown3 (by omega))]; assumption)
                   · (rw [hgrow.cell_far _ (by simp; omega) (own_not hown3 (by omega))]; assumption)))
                ((refine step_append_lies _ (by rfl) _ _ _ (by rfl) w2.heap.size 23 i0 _ 2 16 Try.underlying31 hi0 hz0 hz1 hz2 rfl (by omega) _ _ _ (by rfl) (own_drew (hown3.alloc _) _)
                    ⟨w3.heap.size, 0, none⟩ 1 1 [.int .i64 x, .int .i64 y] (by rfl) (by rfl) (World.news_of_block (cs := #[.int .i64 x, .int .i64 y]) (t := 23) (fr := (0, 0)) (heap_alloc_new w3 _)) (by simp [Value.oneCell'])
                    (by omega) (by unfold maxLen; omega) (by omega) (by simp; omega) (w3.heap.size + 1) (by simp) ?_; intro gg cap wA hownA hgrow hat hltA))
              clear wrk tnk
              have hb9 : Below w2.heap.size w2 wA := ((below_drewN hb4 _).alloc hs4 _).grown hgrow (by simp; omega) (fun g hg' => by have := (World.ownsRow.lt hown3 g hg').1; omega)
              go_wp2
              go_roundw
              case rel => exact ⟨k + 1, _, .inr (by omega), by go_num, by simp at ho ⊢ <;> omega, by rw [cl_append]; simpa [cl] using hownA, hb9, HS2⟩
              case measure => simp [intOf]; omega
    · have HE2 : Hid (chA M l = o) := Lib.hid (by unfold chA; rw [HNN.out, show N - 1 = k by omega]; exact HE.out)
      have hlt1 : ¬ (k : Int) + 1 < (N : Int) := by omega
      go_wp2_with fail
      go_ret
      have he := HE2.out
      rw [he]
      obtain ⟨A', c2, e1, e2, _, e3⟩ := pr_own hown rfl
      exact ⟨A', c2, by simp [e1], e2, e3, hb.trans (hbr.mono hbs)⟩
end Go.Proofs.Ytigohhliblgdhaa
