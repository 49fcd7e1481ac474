/- Walk: the program inserts an identity. -/
import Derived.Test.YtgobbeommjjlfaaDdN
namespace Go.Proofs.Ytgobbeommjjlfaa
open Go.RowKit

theorem apt_prev {s x : Int} {l : List Rg} {q : Nat} {qs qf qt : Int} {v : Bool} (hp : plc s x l = q + 1) (hq : l.getD q rg0 = (qs, qf, qt)) (hv : apt (qs, qf, qt) (s, x, x) = v) : iM s x l = !v := by
  unfold iM; rw [hp, show q + 1 - 1 = q from rfl, hq, hv]; simp
theorem im_zero {s x : Int} {l : List Rg} (hp : plc s x l = 0) : iM s x l = false := by unfold iM; rw [hp]; rfl
theorem ia_no {s x : Int} {l : List Rg} (h : iM s x l = false) : iA s x l = plc s x l ∧ iF s x l = x := by unfold iA iF; rw [h]; exact ⟨rfl, rfl⟩
theorem ia_yes {s x : Int} {l : List Rg} {q : Nat} {qs qf qt : Int} (hp : plc s x l = q + 1) (hq : l.getD q rg0 = (qs, qf, qt)) (h : iM s x l = true) : iA s x l = q ∧ iF s x l = qf := by
  unfold iA iF; rw [h, hp, show q + 1 - 1 = q from rfl, hq]; exact ⟨rfl, rfl⟩
theorem ik_is {s x f : Int} {l : List Rg} {p : Nat} {y : Rg} {v : Bool} (hp : plc s x l = p) (hlt : p < l.length) (hf : iF s x l = f) (hy : l.getD p rg0 = y) (hv : apt (s, f, x) y = v) : iK s x l = !v := by
  unfold iK; rw [hp, hf, hy, hv, decide_eq_true hlt]; simp
theorem ik_end {s x : Int} {l : List Rg} {p : Nat} (hp : plc s x l = p) (hlt : ¬ p < l.length) : iK s x l = false := by unfold iK; rw [hp, decide_eq_false hlt]; rfl
theorem ib_no {s x : Int} {l : List Rg} (h : iK s x l = false) : iB s x l = plc s x l ∧ iT s x l = x := by unfold iB iT; rw [h]; exact ⟨rfl, rfl⟩
theorem ib_yes {s x : Int} {l : List Rg} {ys yf yt : Int} (h : iK s x l = true) (hy : l.getD (plc s x l) rg0 = (ys, yf, yt)) : iB s x l = plc s x l + 1 ∧ iT s x l = yt := by unfold iB iT; rw [h, hy]; exact ⟨rfl, rfl⟩
theorem name_world {W3 W : World} (h : Below W3.heap.size W3 W) : ∃ W4, W4 = W ∧ Below W3.heap.size W3 W4 := ⟨W, rfl, h⟩
/-- What Replace is to give. -/
theorem rep_out {base n a b vb : Nat} {v : Value} {s x f t : Int} {l : List Rg} {w W : World} (hl : Can l) (hh : hasL l s x = false)
    (hown : w.ownsRow base 44 3 v n (rcl l)) (hn : l.length = n) (h6 : n ≤ 1000000) (hbase : base ≤ w.heap.size) (hA : iA s x l = a) (hF : iF s x l = f) (hB : iB s x l = b) (hT : iT s x l = t) (hab : a ≤ b) (hbn : b ≤ n) (hb : Below w.heap.size w W) (hvb : w.heap.size ≤ vb) (hBk : Blk W vb 44 (rgv (s, f, t))) :
    Calls Try.prog 40 #[v, .int .i64 a, .int .i64 b, .slice (some ⟨vb, 0, none⟩) 1 1] W (InsOut base v.ownBlock (adL s x l).length (adL s x l) w) := by
  have hne : v.ownBlock ≠ some vb := fun e => by have := (World.ownsRow.lt hown vb e).2; omega
  refine (replace_any base v n a b vb l (s, f, t) W (own_keep hown hb) hn hab hbn h6 hBk hne (Nat.le_trans hbase hb.size)).mono fun e w' h => ?_
  obtain ⟨v', he, h1, h2, h3⟩ := h
  have hL : l.take a ++ (s, f, t) :: l.drop b = adL s x l := by rw [← ins_adL hl hh, hA, hF, hB, hT]
  have hlen : a + 1 + (n - b) = (adL s x l).length := by
    rw [← hL, List.length_append, List.length_cons, List.length_take, List.length_drop]; omega
  rw [hL, hlen] at h1
  exact ⟨v', he, h1, grown_trans (grown_below (B := 0) hb) h2, fun x hx => (h3 x hx).imp id (fun h => Nat.le_trans hb.size h)⟩
set_option maxRecDepth 100000 in
set_option maxHeartbeats 16000000 in
theorem insert_any (base : Nat) (v : Value) (n : Nat) (l : List Rg) (s x : Int) (w : World) (hl : Can l) (hi : idB s x = true) (hh : hasL l s x = false) (hown : w.ownsRow base 44 3 v n (rcl l)) (hn : l.length = n) (h6 : n ≤ 1000000) (hbase : base ≤ w.heap.size) :
    Calls Try.prog 32 #[v, .int .i64 s, .int .i64 x] w (InsOut base v.ownBlock (adL s x l).length (adL s x l) w) := by
  obtain ⟨i1, i2, i3, i4⟩ := idB_iff.1 hi
  obtain ⟨A, c, rfl, hc, hm, hA⟩ := rg_own hown hn
  have HPL := Lib.hid (place_any A n c l s x w hl h6 hA hn hc hm)
  have hpl := plc_le s x l
  obtain ⟨p, hp⟩ : ∃ p, plc s x l = p := ⟨_, rfl⟩
  rw [hp] at HPL hpl
  rw [hn] at hpl
  unfold maxLen at hm
  have HREP := Lib.hid (fun (a b vb : Nat) (f t : Int) (W : World) => @rep_out base n a b vb (.slice A n c) s x f t l w W hl hh hown hn h6 hbase)
  have HOWN := Lib.hid hown; have HL := Lib.hid hl; have HN := Lib.hid hn; have HA := Lib.hid hA; have HP := Lib.hid hp; have HCG := Lib.hid (fun k s f t (h : k < l.length) (e : l.getD k rg0 = (s, f, t)) => can_get hl h e)
  obtain ⟨LA, hLA⟩ : ∃ LA, adL s x l = LA := ⟨_, rfl⟩
  rw [hLA] at HREP ⊢
  clear hl hh hown hn hA hi hp hLA
  by_cases hp0 : p = 0
  · have HIA0 := Lib.hid (ia_no (im_zero (HP.out.trans hp0)))
    have d0 : decide ((0 : Int) < (p : Int)) = false := decide_eq_false (by omega)
    have d0n : decide (0 < p) = false := decide_eq_false (by omega)
    have HIA : Hid (iA s x l = p) := Lib.hid (HIA0.out.1.trans HP.out)
    have HIF : Hid (iF s x l = x) := Lib.hid HIA0.out.2
    clear hp0
    go_enter Try.func32, Try.ntmps32
    go_wp2_with (go_at_call 30; (with_reducible refine HPL.out.mono ?_); rintro e w1 ⟨rfl, hb1⟩)
    have hs1 := hb1.size
    have hbJ : Below w.heap.size w (w1.alloc (.cells #[.int .i64 s, .int .i64 x, .int .i64 x] 44)) := hb1.alloc hs1 _
    have HBJ := Lib.hid (Blk.new w1 44 #[.int .i64 s, .int .i64 x, .int .i64 x])
    obtain ⟨J, hJ⟩ : ∃ J, w1.heap.size = J := ⟨_, rfl⟩
    have HJ : Hid (w.heap.size ≤ J) := Lib.hid (by omega)
    rw [hJ] at HBJ
    obtain ⟨W2, hW2⟩ : ∃ W2, w1.alloc (.cells #[.int .i64 s, .int .i64 x, .int .i64 x] 44) = W2 := ⟨_, rfl⟩
    rw [hW2] at hbJ HBJ
    simp only [hW2, hJ]
    have HB2 := Lib.hid hbJ
    obtain ⟨c0, c1, c2⟩ := HBJ.out.three
    clear hW2 hJ hs1 hb1 hbJ
    go_quiet (fail)
    generalize hW3 : World.drewN W2 _ = W3
    have HB3 : Hid (Below w.heap.size w W3) := Lib.hid (by rw [← hW3]; exact below_drewN HB2.out _)
    have HBJ3 : Hid (Blk W3 J 44 #[.int .i64 s, .int .i64 x, .int .i64 x]) := Lib.hid (by rw [← hW3]; exact HBJ.out.drewN _)
    clear hW3 c0 c1 c2
    go_wp2_with fail
    obtain ⟨c0, c1, c2⟩ := HBJ3.out.three
    by_cases hpn : p = n
    · subst hpn
      have d1 : decide ((p : Int) < (p : Int)) = false := decide_eq_false (by omega)
      have HIK := Lib.hid (ib_no (ik_end HP.out (by rw [HN.out]; omega)))
      go_quiet (fail)
      have HIB := HIK
      rw [HP.out] at HIB
      generalize hW4 : World.drewN W3 _ = W4
      have HB4 : Hid (Below w.heap.size w W4) := Lib.hid (by rw [← hW4]; exact below_drewN HB3.out _)
      have HBJ4 : Hid (Blk W4 J 44 #[.int .i64 s, .int .i64 x, .int .i64 x]) := Lib.hid (by rw [← hW4]; exact HBJ3.out.drewN _)
      clear hW4 c0 c1 c2
      obtain ⟨x0, x1, x2⟩ := HBJ4.out.three
      have hsz := HB4.out.size
      have HRP := Lib.hid (HREP.out (p) (p) _ (x) (x) _ HIA.out HIF.out HIB.out.1 HIB.out.2 (by omega) (by omega) (HB4.out.alloc hsz (.cells #[.int .i64 s, .int .i64 x, .int .i64 x] 44)) hsz (Blk.new W4 44 #[.int .i64 s, .int .i64 x, .int .i64 x]))
      skip
      clear hsz
      go_wp2_with (go_at_call 40; (with_reducible refine HRP.out.mono ?_); rintro e w9 ⟨v9, rfl, r1, r2⟩)
      go_ret
      exact ⟨v9, rfl, r1, r2⟩
    · have d1 : decide ((p : Int) < (n : Int)) = true := decide_eq_true (by omega)
      have d1n : decide (p < n) = true := decide_eq_true (by omega)
      obtain ⟨bk, off, hAe, hbl, g0, g1, g2⟩ := HA.out p (by rw [HN.out]; omega)
      obtain ⟨⟨ys, yf, yt⟩, hy⟩ : ∃ z, l.getD p rg0 = z := ⟨_, rfl⟩
      rw [hy] at g0 g1 g2
      simp only at g0 g1 g2
      obtain ⟨j1, j2, j3, j4, j5⟩ := HCG.out p _ _ _ (by rw [HN.out]; omega) hy
      have e0 := (HB3.out.cell (p := ⟨bk, off + p * 3, none⟩) hbl).trans g0
      have e1 := (HB3.out.cell (p := ⟨bk, off + p * 3 + 1, none⟩) hbl).trans g1
      have e2 := (HB3.out.cell (p := ⟨bk, off + p * 3 + 2, none⟩) hbl).trans g2
      clear g0 g1 g2
      have HY := Lib.hid hy
      first | subst hAe | (obtain ⟨rfl, rfl⟩ : _ = bk ∧ _ = off := by injection hAe with h; injection h with h1 h2 h3; exact ⟨h1, h2⟩)
      obtain ⟨vb, hvb⟩ : ∃ v, apt (s, x, x) (ys, yf, yt) = v := ⟨_, rfl⟩
      have HAP := Lib.hid (fun W => apart_is (w := W) hvb (by omega) (by omega))
      have HIK := Lib.hid (ik_is HP.out (by rw [HN.out]; omega) HIF.out hy hvb)
      have hpi : (0 : Int) ≤ (p : Int) := by omega
      have k0 := cell_regrown c0
      have k1 := cell_regrown c1
      have k2 := cell_regrown c2
      have k3 := cell_regrown e0
      have k4 := cell_regrown e1
      have k5 := cell_regrown e2
      clear hvb hy
      refine wp_region_quiet_below (by kernel_rfl) (by kernel_rfl) ?_
      iterate 13 (go_big_quiet_step ((with_reducible exact Calls.regrown_of (HAP.out _))))
      refine wpQuiet_nil ?_
      intro _ hw'
      obtain ⟨⟨dq, osq⟩, hw''⟩ := hw'
      subst hw''
      obtain ⟨W4, hWN, hbq⟩ := name_world (below_regrown W3 dq osq)
      rw [← hWN]
      clear hWN
      clear k0 k1 k2 k3 k4 k5
      cases vb
      · have HIB := Lib.hid (ib_yes (ys := ys) (yf := yf) (yt := yt) HIK.out (by rw [HP.out]; exact HY.out))
        rw [HP.out] at HIB
        have HB4 := Lib.hid (HB3.out.trans (hbq.mono HB3.out.size))
        have HBJ4 := Lib.hid (HBJ3.out.below hbq HBJ3.out.lt)
        have e2' := (hbq.cell (p := ⟨bk, off + p * 3 + 2, none⟩) (Nat.lt_of_lt_of_le hbl HB3.out.size)).trans e2
        have hfz := HBJ4.out.frozen 2
        have hc2 := HBJ4.out.three.2.2
        have HBJ5 := Lib.hid (HBJ4.out.set_ 2 (.int .i64 yt))
        have HB5 := Lib.hid (HB4.out.setCell (p := ⟨J, 2, none⟩) HJ.out (.int .i64 yt))
        clear e0 e1 e2 c0 c1 c2
        obtain ⟨x0, x1, x2⟩ := HBJ5.out.three
        have hsz := HB5.out.size
        have HRP := Lib.hid (HREP.out (p) (p + 1) _ (x) (yt) _ HIA.out HIF.out HIB.out.1 HIB.out.2 (by omega) (by omega) (HB5.out.alloc hsz (.cells #[.int .i64 s, .int .i64 x, .int .i64 yt] 44)) hsz (Blk.new (W4.setCell ⟨J, 2, none⟩ (.int .i64 yt)) 44 #[.int .i64 s, .int .i64 x, .int .i64 yt]))
        rw [show ((p + 1 : Nat) : Int) = (p : Int) + 1 by omega, show (W4.setCell ⟨J, 2, none⟩ (.int .i64 yt)).heap.size = W4.heap.size by simp [World.setCell]] at HRP
        clear hsz
        go_wp2_with (go_at_call 40; (with_reducible refine HRP.out.mono ?_); rintro e w9 ⟨v9, rfl, r1, r2⟩)
        go_ret
        exact ⟨v9, rfl, r1, r2⟩
      · have HIB := Lib.hid (ib_no HIK.out)
        rw [HP.out] at HIB
        have HB4 := Lib.hid (HB3.out.trans (hbq.mono HB3.out.size))
        have HBJ4 := Lib.hid (HBJ3.out.below hbq HBJ3.out.lt)
        clear e0 e1 e2 c0 c1 c2
        obtain ⟨x0, x1, x2⟩ := HBJ4.out.three
        have hsz := HB4.out.size
        have HRP := Lib.hid (HREP.out (p) (p) _ (x) (x) _ HIA.out HIF.out HIB.out.1 HIB.out.2 (by omega) (by omega) (HB4.out.alloc hsz (.cells #[.int .i64 s, .int .i64 x, .int .i64 x] 44)) hsz (Blk.new W4 44 #[.int .i64 s, .int .i64 x, .int .i64 x]))
        skip
        clear hsz
        go_wp2_with (go_at_call 40; (with_reducible refine HRP.out.mono ?_); rintro e w9 ⟨v9, rfl, r1, r2⟩)
        go_ret
        exact ⟨v9, rfl, r1, r2⟩
  · obtain ⟨q, hqp⟩ : ∃ q, q + 1 = p := ⟨p - 1, by omega⟩
    have HPQ := Lib.hid (HP.out.trans hqp.symm)
    have hq1 : q < p := by omega
    have hq2 : p ≤ q + 1 := by omega
    have d0 : decide ((0 : Int) < (p : Int)) = true := decide_eq_true (by omega)
    have d0n : decide (0 < p) = true := decide_eq_true (by omega)
    have hpq : (p : Int) - 1 = (q : Int) := by omega
    have hwq : IntKind.i64.wrap ((p : Int) - 1) = (q : Int) := by rw [hpq]; exact IntWalk.i64_in _ (by omega)
    have hq0 : (0 : Int) ≤ (q : Int) := by omega
    have hqn : (q : Int) < (n : Int) := by omega
    clear hp0 hqp
    go_enter Try.func32, Try.ntmps32
    go_wp2_with (go_at_call 30; (with_reducible refine HPL.out.mono ?_); rintro e w1 ⟨rfl, hb1⟩)
    have hs1 := hb1.size
    have hbJ : Below w.heap.size w (w1.alloc (.cells #[.int .i64 s, .int .i64 x, .int .i64 x] 44)) := hb1.alloc hs1 _
    have HBJ := Lib.hid (Blk.new w1 44 #[.int .i64 s, .int .i64 x, .int .i64 x])
    obtain ⟨J, hJ⟩ : ∃ J, w1.heap.size = J := ⟨_, rfl⟩
    have HJ : Hid (w.heap.size ≤ J) := Lib.hid (by omega)
    rw [hJ] at HBJ
    obtain ⟨W2, hW2⟩ : ∃ W2, w1.alloc (.cells #[.int .i64 s, .int .i64 x, .int .i64 x] 44) = W2 := ⟨_, rfl⟩
    rw [hW2] at hbJ HBJ
    simp only [hW2, hJ]
    have HB2 := Lib.hid hbJ
    obtain ⟨c0, c1, c2⟩ := HBJ.out.three
    clear hW2 hJ hs1 hb1 hbJ
    obtain ⟨bk, off, hAe, hbl, g0, g1, g2⟩ := HA.out q (by rw [HN.out]; omega)
    obtain ⟨⟨qs, qf, qt⟩, hq⟩ : ∃ z, l.getD q rg0 = z := ⟨_, rfl⟩
    rw [hq] at g0 g1 g2
    simp only at g0 g1 g2
    obtain ⟨j1, j2, j3, j4, j5⟩ := HCG.out q _ _ _ (by rw [HN.out]; omega) hq
    have e0 := (HB2.out.cell (p := ⟨bk, off + q * 3, none⟩) hbl).trans g0
    have e1 := (HB2.out.cell (p := ⟨bk, off + q * 3 + 1, none⟩) hbl).trans g1
    have e2 := (HB2.out.cell (p := ⟨bk, off + q * 3 + 2, none⟩) hbl).trans g2
    clear g0 g1 g2
    have HQ := Lib.hid hq
    have HAE := Lib.hid hAe
    subst hAe
    obtain ⟨va, hva⟩ : ∃ v, apt (qs, qf, qt) (s, x, x) = v := ⟨_, rfl⟩
    have HAP := Lib.hid (fun W => apart_is (w := W) hva (by omega) (by omega))
    have HIM := Lib.hid (apt_prev HPQ.out hq hva)
    have k0 := cell_regrown c0
    have k1 := cell_regrown c1
    have k2 := cell_regrown c2
    have k3 := cell_regrown e0
    have k4 := cell_regrown e1
    have k5 := cell_regrown e2
    clear hva hq
    refine wp_region_quiet_below (by kernel_rfl) (by kernel_rfl) ?_
    iterate 12 (go_big_quiet_step ((with_reducible exact Calls.regrown_of (HAP.out _))))
    refine wpQuiet_nil ?_
    intro _ hw'
    obtain ⟨⟨dq, osq⟩, hw''⟩ := hw'
    subst hw''
    obtain ⟨W3, hWN, hbq⟩ := name_world (below_regrown W2 dq osq)
    rw [← hWN]
    clear hWN
    clear k0 k1 k2 k3 k4 k5
    have f1 := (hbq.cell (p := ⟨bk, off + q * 3 + 1, none⟩) (Nat.lt_of_lt_of_le hbl HB2.out.size)).trans e1
    have HB3 := Lib.hid (HB2.out.trans (hbq.mono HB2.out.size))
    have HBJ3 := Lib.hid (HBJ.out.below hbq HBJ.out.lt)
    clear e0 e1 e2 c0 c1 c2 hbl
    cases va
    · have HIM0 : Hid (iM s x l = true) := HIM
      have HIA0 := Lib.hid (ia_yes HPQ.out HQ.out HIM0.out)
      have HIA : Hid (iA s x l = q) := Lib.hid HIA0.out.1
      have HIF : Hid (iF s x l = qf) := Lib.hid HIA0.out.2
      have hfz := HBJ3.out.frozen 1
      obtain ⟨c0, c1, c2⟩ := HBJ3.out.three
      go_wp2_with fail
      clear c0 c1 c2 hfz f1
      have HB3' := Lib.hid (HB3.out.setCell (p := ⟨J, 1, none⟩) HJ.out (.int .i64 qf))
      have HBJ3' : Hid (Blk (W3.setCell ⟨J, 1, none⟩ (.int .i64 qf)) J 44 #[.int .i64 s, .int .i64 qf, .int .i64 x]) := Lib.hid (HBJ3.out.set_ 1 (.int .i64 qf))
      clear HB3 HBJ3 hbq hpq hwq
      obtain ⟨W3, hW3b⟩ : ∃ W, W3.setCell ⟨J, 1, none⟩ (.int .i64 qf) = W := ⟨_, rfl⟩
      rw [hW3b] at HB3' HBJ3' ⊢
      clear hW3b
      have HB3 := HB3'
      have HBJ3 := HBJ3'
      clear HB3' HBJ3'
      obtain ⟨c0, c1, c2⟩ := HBJ3.out.three
      by_cases hpn : p = n
      · subst hpn
        have d1 : decide ((p : Int) < (p : Int)) = false := decide_eq_false (by omega)
        have HIK := Lib.hid (ib_no (ik_end HP.out (by rw [HN.out]; omega)))
        go_quiet (fail)
        have HIB := HIK
        rw [HP.out] at HIB
        generalize hW4 : World.drewN W3 _ = W4
        have HB4 : Hid (Below w.heap.size w W4) := Lib.hid (by rw [← hW4]; exact below_drewN HB3.out _)
        have HBJ4 : Hid (Blk W4 J 44 #[.int .i64 s, .int .i64 qf, .int .i64 x]) := Lib.hid (by rw [← hW4]; exact HBJ3.out.drewN _)
        clear hW4 c0 c1 c2
        obtain ⟨x0, x1, x2⟩ := HBJ4.out.three
        have hsz := HB4.out.size
        have HRP := Lib.hid (HREP.out (q) (p) _ (qf) (x) _ HIA.out HIF.out HIB.out.1 HIB.out.2 (by omega) (by omega) (HB4.out.alloc hsz (.cells #[.int .i64 s, .int .i64 qf, .int .i64 x] 44)) hsz (Blk.new W4 44 #[.int .i64 s, .int .i64 qf, .int .i64 x]))
        skip
        clear hsz
        go_wp2_with (go_at_call 40; (with_reducible refine HRP.out.mono ?_); rintro e w9 ⟨v9, rfl, r1, r2⟩)
        go_ret
        exact ⟨v9, rfl, r1, r2⟩
      · have d1 : decide ((p : Int) < (n : Int)) = true := decide_eq_true (by omega)
        have d1n : decide (p < n) = true := decide_eq_true (by omega)
        obtain ⟨bk, off, hAe, hbl, g0, g1, g2⟩ := HA.out p (by rw [HN.out]; omega)
        obtain ⟨⟨ys, yf, yt⟩, hy⟩ : ∃ z, l.getD p rg0 = z := ⟨_, rfl⟩
        rw [hy] at g0 g1 g2
        simp only at g0 g1 g2
        obtain ⟨j1, j2, j3, j4, j5⟩ := HCG.out p _ _ _ (by rw [HN.out]; omega) hy
        have e0 := (HB3.out.cell (p := ⟨bk, off + p * 3, none⟩) hbl).trans g0
        have e1 := (HB3.out.cell (p := ⟨bk, off + p * 3 + 1, none⟩) hbl).trans g1
        have e2 := (HB3.out.cell (p := ⟨bk, off + p * 3 + 2, none⟩) hbl).trans g2
        clear g0 g1 g2
        have HY := Lib.hid hy
        first | subst hAe | (obtain ⟨rfl, rfl⟩ : _ = bk ∧ _ = off := by injection hAe with h; injection h with h1 h2 h3; exact ⟨h1, h2⟩)
        obtain ⟨vb, hvb⟩ : ∃ v, apt (s, qf, x) (ys, yf, yt) = v := ⟨_, rfl⟩
        have HAP := Lib.hid (fun W => apart_is (w := W) hvb (by omega) (by omega))
        have HIK := Lib.hid (ik_is HP.out (by rw [HN.out]; omega) HIF.out hy hvb)
        have hpi : (0 : Int) ≤ (p : Int) := by omega
        have k0 := cell_regrown c0
        have k1 := cell_regrown c1
        have k2 := cell_regrown c2
        have k3 := cell_regrown e0
        have k4 := cell_regrown e1
        have k5 := cell_regrown e2
        clear hvb hy
        refine wp_region_quiet_below (by kernel_rfl) (by kernel_rfl) ?_
        iterate 13 (go_big_quiet_step ((with_reducible exact Calls.regrown_of (HAP.out _))))
        refine wpQuiet_nil ?_
        intro _ hw'
        obtain ⟨⟨dq, osq⟩, hw''⟩ := hw'
        subst hw''
        obtain ⟨W4, hWN, hbq⟩ := name_world (below_regrown W3 dq osq)
        rw [← hWN]
        clear hWN
        clear k0 k1 k2 k3 k4 k5
        cases vb
        · have HIB := Lib.hid (ib_yes (ys := ys) (yf := yf) (yt := yt) HIK.out (by rw [HP.out]; exact HY.out))
          rw [HP.out] at HIB
          have HB4 := Lib.hid (HB3.out.trans (hbq.mono HB3.out.size))
          have HBJ4 := Lib.hid (HBJ3.out.below hbq HBJ3.out.lt)
          have e2' := (hbq.cell (p := ⟨bk, off + p * 3 + 2, none⟩) (Nat.lt_of_lt_of_le hbl HB3.out.size)).trans e2
          have hfz := HBJ4.out.frozen 2
          have hc2 := HBJ4.out.three.2.2
          have HBJ5 := Lib.hid (HBJ4.out.set_ 2 (.int .i64 yt))
          have HB5 := Lib.hid (HB4.out.setCell (p := ⟨J, 2, none⟩) HJ.out (.int .i64 yt))
          clear e0 e1 e2 c0 c1 c2
          obtain ⟨x0, x1, x2⟩ := HBJ5.out.three
          have hsz := HB5.out.size
          have HRP := Lib.hid (HREP.out (q) (p + 1) _ (qf) (yt) _ HIA.out HIF.out HIB.out.1 HIB.out.2 (by omega) (by omega) (HB5.out.alloc hsz (.cells #[.int .i64 s, .int .i64 qf, .int .i64 yt] 44)) hsz (Blk.new (W4.setCell ⟨J, 2, none⟩ (.int .i64 yt)) 44 #[.int .i64 s, .int .i64 qf, .int .i64 yt]))
          rw [show ((p + 1 : Nat) : Int) = (p : Int) + 1 by omega, show (W4.setCell ⟨J, 2, none⟩ (.int .i64 yt)).heap.size = W4.heap.size by simp [World.setCell]] at HRP
          clear hsz
          go_wp2_with (go_at_call 40; (with_reducible refine HRP.out.mono ?_); rintro e w9 ⟨v9, rfl, r1, r2⟩)
          go_ret
          exact ⟨v9, rfl, r1, r2⟩
        · have HIB := Lib.hid (ib_no HIK.out)
          rw [HP.out] at HIB
          have HB4 := Lib.hid (HB3.out.trans (hbq.mono HB3.out.size))
          have HBJ4 := Lib.hid (HBJ3.out.below hbq HBJ3.out.lt)
          clear e0 e1 e2 c0 c1 c2
          obtain ⟨x0, x1, x2⟩ := HBJ4.out.three
          have hsz := HB4.out.size
          have HRP := Lib.hid (HREP.out (q) (p) _ (qf) (x) _ HIA.out HIF.out HIB.out.1 HIB.out.2 (by omega) (by omega) (HB4.out.alloc hsz (.cells #[.int .i64 s, .int .i64 qf, .int .i64 x] 44)) hsz (Blk.new W4 44 #[.int .i64 s, .int .i64 qf, .int .i64 x]))
          skip
          clear hsz
          go_wp2_with (go_at_call 40; (with_reducible refine HRP.out.mono ?_); rintro e w9 ⟨v9, rfl, r1, r2⟩)
          go_ret
          exact ⟨v9, rfl, r1, r2⟩
    · have HIM0 : Hid (iM s x l = false) := HIM
      have HIA0 := Lib.hid (ia_no HIM0.out)
      have HIA : Hid (iA s x l = p) := Lib.hid (HIA0.out.1.trans HP.out)
      have HIF : Hid (iF s x l = x) := Lib.hid HIA0.out.2
      clear f1
      go_wp2_with fail
      clear hbq hpq hwq
      obtain ⟨c0, c1, c2⟩ := HBJ3.out.three
      by_cases hpn : p = n
      · subst hpn
        have d1 : decide ((p : Int) < (p : Int)) = false := decide_eq_false (by omega)
        have HIK := Lib.hid (ib_no (ik_end HP.out (by rw [HN.out]; omega)))
        go_quiet (fail)
        have HIB := HIK
        rw [HP.out] at HIB
        generalize hW4 : World.drewN W3 _ = W4
        have HB4 : Hid (Below w.heap.size w W4) := Lib.hid (by rw [← hW4]; exact below_drewN HB3.out _)
        have HBJ4 : Hid (Blk W4 J 44 #[.int .i64 s, .int .i64 x, .int .i64 x]) := Lib.hid (by rw [← hW4]; exact HBJ3.out.drewN _)
        clear hW4 c0 c1 c2
        obtain ⟨x0, x1, x2⟩ := HBJ4.out.three
        have hsz := HB4.out.size
        have HRP := Lib.hid (HREP.out (p) (p) _ (x) (x) _ HIA.out HIF.out HIB.out.1 HIB.out.2 (by omega) (by omega) (HB4.out.alloc hsz (.cells #[.int .i64 s, .int .i64 x, .int .i64 x] 44)) hsz (Blk.new W4 44 #[.int .i64 s, .int .i64 x, .int .i64 x]))
        skip
        clear hsz
        go_wp2_with (go_at_call 40; (with_reducible refine HRP.out.mono ?_); rintro e w9 ⟨v9, rfl, r1, r2⟩)
        go_ret
        exact ⟨v9, rfl, r1, r2⟩
      · have d1 : decide ((p : Int) < (n : Int)) = true := decide_eq_true (by omega)
        have d1n : decide (p < n) = true := decide_eq_true (by omega)
        obtain ⟨bk, off, hAe, hbl, g0, g1, g2⟩ := HA.out p (by rw [HN.out]; omega)
        obtain ⟨⟨ys, yf, yt⟩, hy⟩ : ∃ z, l.getD p rg0 = z := ⟨_, rfl⟩
        rw [hy] at g0 g1 g2
        simp only at g0 g1 g2
        obtain ⟨j1, j2, j3, j4, j5⟩ := HCG.out p _ _ _ (by rw [HN.out]; omega) hy
        have e0 := (HB3.out.cell (p := ⟨bk, off + p * 3, none⟩) hbl).trans g0
        have e1 := (HB3.out.cell (p := ⟨bk, off + p * 3 + 1, none⟩) hbl).trans g1
        have e2 := (HB3.out.cell (p := ⟨bk, off + p * 3 + 2, none⟩) hbl).trans g2
        clear g0 g1 g2
        have HY := Lib.hid hy
        first | subst hAe | (obtain ⟨rfl, rfl⟩ : _ = bk ∧ _ = off := by injection hAe with h; injection h with h1 h2 h3; exact ⟨h1, h2⟩)
        obtain ⟨vb, hvb⟩ : ∃ v, apt (s, x, x) (ys, yf, yt) = v := ⟨_, rfl⟩
        have HAP := Lib.hid (fun W => apart_is (w := W) hvb (by omega) (by omega))
        have HIK := Lib.hid (ik_is HP.out (by rw [HN.out]; omega) HIF.out hy hvb)
        have hpi : (0 : Int) ≤ (p : Int) := by omega
        have k0 := cell_regrown c0
        have k1 := cell_regrown c1
        have k2 := cell_regrown c2
        have k3 := cell_regrown e0
        have k4 := cell_regrown e1
        have k5 := cell_regrown e2
        clear hvb hy
        refine wp_region_quiet_below (by kernel_rfl) (by kernel_rfl) ?_
        iterate 13 (go_big_quiet_step ((with_reducible exact Calls.regrown_of (HAP.out _))))
        refine wpQuiet_nil ?_
        intro _ hw'
        obtain ⟨⟨dq, osq⟩, hw''⟩ := hw'
        subst hw''
        obtain ⟨W4, hWN, hbq⟩ := name_world (below_regrown W3 dq osq)
        rw [← hWN]
        clear hWN
        clear k0 k1 k2 k3 k4 k5
        cases vb
        · have HIB := Lib.hid (ib_yes (ys := ys) (yf := yf) (yt := yt) HIK.out (by rw [HP.out]; exact HY.out))
          rw [HP.out] at HIB
          have HB4 := Lib.hid (HB3.out.trans (hbq.mono HB3.out.size))
          have HBJ4 := Lib.hid (HBJ3.out.below hbq HBJ3.out.lt)
          have e2' := (hbq.cell (p := ⟨bk, off + p * 3 + 2, none⟩) (Nat.lt_of_lt_of_le hbl HB3.out.size)).trans e2
          have hfz := HBJ4.out.frozen 2
          have hc2 := HBJ4.out.three.2.2
          have HBJ5 := Lib.hid (HBJ4.out.set_ 2 (.int .i64 yt))
          have HB5 := Lib.hid (HB4.out.setCell (p := ⟨J, 2, none⟩) HJ.out (.int .i64 yt))
          clear e0 e1 e2 c0 c1 c2
          obtain ⟨x0, x1, x2⟩ := HBJ5.out.three
          have hsz := HB5.out.size
          have HRP := Lib.hid (HREP.out (p) (p + 1) _ (x) (yt) _ HIA.out HIF.out HIB.out.1 HIB.out.2 (by omega) (by omega) (HB5.out.alloc hsz (.cells #[.int .i64 s, .int .i64 x, .int .i64 yt] 44)) hsz (Blk.new (W4.setCell ⟨J, 2, none⟩ (.int .i64 yt)) 44 #[.int .i64 s, .int .i64 x, .int .i64 yt]))
          rw [show ((p + 1 : Nat) : Int) = (p : Int) + 1 by omega, show (W4.setCell ⟨J, 2, none⟩ (.int .i64 yt)).heap.size = W4.heap.size by simp [World.setCell]] at HRP
          clear hsz
          go_wp2_with (go_at_call 40; (with_reducible refine HRP.out.mono ?_); rintro e w9 ⟨v9, rfl, r1, r2⟩)
          go_ret
          exact ⟨v9, rfl, r1, r2⟩
        · have HIB := Lib.hid (ib_no HIK.out)
          rw [HP.out] at HIB
          have HB4 := Lib.hid (HB3.out.trans (hbq.mono HB3.out.size))
          have HBJ4 := Lib.hid (HBJ3.out.below hbq HBJ3.out.lt)
          clear e0 e1 e2 c0 c1 c2
          obtain ⟨x0, x1, x2⟩ := HBJ4.out.three
          have hsz := HB4.out.size
          have HRP := Lib.hid (HREP.out (p) (p) _ (x) (x) _ HIA.out HIF.out HIB.out.1 HIB.out.2 (by omega) (by omega) (HB4.out.alloc hsz (.cells #[.int .i64 s, .int .i64 x, .int .i64 x] 44)) hsz (Blk.new W4 44 #[.int .i64 s, .int .i64 x, .int .i64 x]))
          skip
          clear hsz
          go_wp2_with (go_at_call 40; (with_reducible refine HRP.out.mono ?_); rintro e w9 ⟨v9, rfl, r1, r2⟩)
          go_ret
          exact ⟨v9, rfl, r1, r2⟩
end Go.Proofs.Ytgobbeommjjlfaa
