/- Walks: a bundle is checked, in the program and in the reference. -/
import Derived.Test.YthjckkcafhiomaaPdZ
namespace Go.Proofs.Ythjckkcafhiomaa.Pd
open Go.RowKit

theorem ckN_kind {b : Bn} (h : (decide (1 ≤ b.k) && decide (b.k ≤ 4)) = false) : ckN b = 7 := by
  unfold ckN
  simp at h
  rw [if_pos (by omega)]
theorem ckN_zs {b : Bn} {ev : Int} (h : (decide (1 ≤ b.k) && decide (b.k ≤ 4)) = true) (hz : ckZ b.zs = ev) (h0 : ev ≠ 0) : ckN b = ev := by
  unfold ckN
  simp at h
  rw [if_neg (by omega), hz, if_neg h0]
theorem ckN_rng {b : Bn} {v : Bool} (h : (decide (1 ≤ b.k) && decide (b.k ≤ 4)) = true) (hz : ckZ b.zs = 0) (hv : bnR b = v) : ckN b = if v then 0 else 6 := by
  unfold ckN
  simp at h
  rw [if_neg (by omega), hz, if_pos rfl, hv]
theorem checkZones_is (A : Option Addr) (n c : Nat) (l : List ByteArray) (v : Int) (h : ckZ l = v) (w : World) (hA : ZsR w A l) (hn : l.length = n) (h6 : n ≤ 8796093021952) :
    Calls Try.prog 45 #[.slice A n c] w fun e w' => e = .returned (.int .i64 v) ∧ Below w.heap.size w w' := by
  subst h; exact checkZones_any A n c l w hA hn h6
theorem refZones_is (A : Option Addr) (n c : Nat) (l : List ByteArray) (v : Int) (h : ckZ l = v) (w : World) (hA : ZsR w A l) (hn : l.length = n) (h6 : n ≤ 8796093021952) :
    Calls Try.prog 48 #[.slice A n c] w fun e w' => e = .returned (.int .i64 v) ∧ Below w.heap.size w w' := by
  subst h; exact refZones_any A n c l w hA hn h6
set_option maxRecDepth 100000 in
set_option maxHeartbeats 8000000 in
theorem checkBundle_any (b : Bn) (w : World) (h : BnOk w b) : Calls Try.prog 36 #[.agg b.cells] w fun e w' => e = .returned (.int .i64 (ckN b)) ∧ Below w.heap.size w w' := by
  obtain ⟨k, A, n, c, u, r, p, sh, zs⟩ := b
  obtain ⟨v0, hv0⟩ : ∃ v, (decide (1 ≤ k) && decide (k ≤ 4)) = v := ⟨_, rfl⟩
  obtain ⟨v1, hv1⟩ : ∃ v, (decide (1 ≤ u) && decide (u ≤ 1099511627776)) = v := ⟨_, rfl⟩
  obtain ⟨v2, hv2⟩ : ∃ v, (decide (0 ≤ r) && decide (r ≤ 1099511627776)) = v := ⟨_, rfl⟩
  obtain ⟨v3, hv3⟩ : ∃ v, (decide (0 ≤ p) && decide (p ≤ 99)) = v := ⟨_, rfl⟩
  obtain ⟨ev, hev⟩ : ∃ v, ckZ zs = v := ⟨_, rfl⟩
  obtain ⟨L, hL⟩ : ∃ L, w.alloc (.cells #[.int .i64 k, .slice A n c, .int .i64 u, .int .i64 r, .int .i64 p, .bool sh] 48) = L := ⟨_, rfl⟩
  obtain ⟨g, hg⟩ : ∃ g, w.heap.size = g := ⟨_, rfl⟩
  have hbL : Below w.heap.size w L := hL ▸ below_one w _
  have hQ : Blk L g 48 #[.int .i64 k, .slice A n c, .int .i64 u, .int .i64 r, .int .i64 p, .bool sh] := hL ▸ hg ▸ Blk.new w _ _
  have HZ := Lib.hid (checkZones_is A n c zs ev hev L (h.zs.below hbL) h.len h.few)
  have HK := Lib.hid (within_is k 1 4 v0 hv0); have HU := Lib.hid (within_is u 1 1099511627776 v1 hv1); have HRR := Lib.hid (within_is r 0 1099511627776 v2 hv2); have HP := Lib.hid (within_is p 0 99 v3 hv3)
  have HQ := Lib.hid hQ; have HBL := Lib.hid hbL
  have HBR : Hid (bnR ⟨k, A, n, c, u, r, p, sh, zs⟩ = (v1 && (v2 && v3))) := Lib.hid (by subst hv1 hv2 hv3; simp only [bnR, Bool.and_assoc])
  obtain ⟨c0, c1, c2, c3, c4, c5⟩ := hQ.six
  have HE := Lib.hid hev; have HV0 := Lib.hid hv0
  unfold Bn.cells
  simp only
  clear h hbL hQ hev hv0 hv1 hv2 hv3
  cases v0
  · have HR := Lib.hid (ckN_kind (b := ⟨k, A, n, c, u, r, p, sh, zs⟩) HV0.out)
    go_enter Try.func36, Try.ntmps36
    go_wp2_with (go_at_call 34; (with_reducible refine (HK.out _).mono ?_); rintro e w1 ⟨rfl, rfl⟩)
    go_ret
    exact ⟨ret_i64 HR.out.symm, HBL.out⟩
  · by_cases h0 : ev = 0
    · subst h0
      have HR := Lib.hid (ckN_rng (b := ⟨k, A, n, c, u, r, p, sh, zs⟩) HV0.out HE.out HBR.out)
      have hnil : True := trivial
      cases v1 <;> cases v2 <;> cases v3
      all_goals
        go_enter Try.func36, Try.ntmps36
        go_wp2_with (first
          | (go_at_call 34; (first | with_reducible refine (HK.out _).mono ?_ | with_reducible refine (HU.out _).mono ?_ | with_reducible refine (HRR.out _).mono ?_ | with_reducible refine (HP.out _).mono ?_); rintro e w1 ⟨rfl, rfl⟩)
          | (go_at_call 45; (with_reducible refine HZ.out.mono ?_); rintro e w1 ⟨rfl, hb1⟩; have HB1 := Lib.hid (HBL.out.trans (hb1.mono HBL.out.size)); clear c0 c1 c2 c3 c4 c5; obtain ⟨c0, c1, c2, c3, c4, c5⟩ := (HQ.out.below hb1 HQ.out.lt).six; clear hb1))
        go_ret
        exact ⟨ret_i64 HR.out.symm, HB1.out⟩
    · have HR := Lib.hid (ckN_zs (b := ⟨k, A, n, c, u, r, p, sh, zs⟩) HV0.out HE.out h0)
      have h0q : (ev != 0) = true := by simp [h0]
      clear h0
      go_enter Try.func36, Try.ntmps36
      go_wp2_with (first
        | (go_at_call 34; (with_reducible refine (HK.out _).mono ?_); rintro e w1 ⟨rfl, rfl⟩)
        | (go_at_call 45; (with_reducible refine HZ.out.mono ?_); rintro e w1 ⟨rfl, hb1⟩; have HB1 := Lib.hid (HBL.out.trans (hb1.mono HBL.out.size)); clear hb1))
      go_ret
      exact ⟨ret_i64 HR.out.symm, HB1.out⟩
/-- The ways of a comparison from both sides. -/
theorem two_ways (a x y : Int) : ((decide (x ≤ a) && decide (a ≤ y)) = true ∧ decide (a < x) = false ∧ decide (y < a) = false) ∨ ((decide (x ≤ a) && decide (a ≤ y)) = false ∧ (decide (a < x) = true ∨ (decide (a < x) = false ∧ decide (y < a) = true))) := by
  simp
  omega
theorem kind_ways (k : Int) : ((decide (1 ≤ k) && decide (k ≤ 4)) = true ∧ decide (k < 1) = false ∧ decide (5 ≤ k) = false) ∨ ((decide (1 ≤ k) && decide (k ≤ 4)) = false ∧ (decide (k < 1) = true ∨ (decide (k < 1) = false ∧ decide (5 ≤ k) = true))) := by
  simp
  omega
set_option maxRecDepth 100000 in
set_option maxHeartbeats 8000000 in
theorem refBundle_any (b : Bn) (w : World) (h : BnOk w b) : Calls Try.prog 41 #[.agg b.cells] w fun e w' => e = .returned (.int .i64 (ckN b)) ∧ Below w.heap.size w w' := by
  obtain ⟨k, A, n, c, u, r, p, sh, zs⟩ := b
  obtain ⟨ev, hev⟩ : ∃ v, ckZ zs = v := ⟨_, rfl⟩
  obtain ⟨L, hL⟩ : ∃ L, w.alloc (.cells #[.int .i64 k, .slice A n c, .int .i64 u, .int .i64 r, .int .i64 p, .bool sh] 48) = L := ⟨_, rfl⟩
  obtain ⟨g, hg⟩ : ∃ g, w.heap.size = g := ⟨_, rfl⟩
  have hbL : Below w.heap.size w L := hL ▸ below_one w _
  have hQ : Blk L g 48 #[.int .i64 k, .slice A n c, .int .i64 u, .int .i64 r, .int .i64 p, .bool sh] := hL ▸ hg ▸ Blk.new w _ _
  have HZ := Lib.hid (refZones_is A n c zs ev hev L (h.zs.below hbL) h.len h.few)
  have HQ := Lib.hid hQ; have HBL := Lib.hid hbL
  obtain ⟨c0, c1, c2, c3, c4, c5⟩ := hQ.six
  have HE := Lib.hid hev
  unfold Bn.cells
  simp only
  clear h hbL hQ hev
  rcases kind_ways k with ⟨hv0, d1, d2⟩ | ⟨hv0, hd⟩
  · by_cases h0 : ev = 0
    · subst h0
      have HR := Lib.hid (fun v hv => ckN_rng (b := ⟨k, A, n, c, u, r, p, sh, zs⟩) (v := v) hv0 HE.out hv)
      have hbn : bnR ⟨k, A, n, c, u, r, p, sh, zs⟩ = ((decide (1 ≤ u) && decide (u ≤ 1099511627776)) && ((decide (0 ≤ r) && decide (r ≤ 1099511627776)) && (decide (0 ≤ p) && decide (p ≤ 99)))) := by simp only [bnR, Bool.and_assoc]
      clear hv0
      rcases two_ways u 1 1099511627776 with ⟨u0, u1, u2⟩ | ⟨u0, u1⟩
      · rcases two_ways r 0 1099511627776 with ⟨r0, r1, r2⟩ | ⟨r0, r1⟩
        · rcases two_ways p 0 99 with ⟨p0, p1, p2⟩ | ⟨p0, p1⟩
          · rw [u0, r0, p0] at hbn
            have HR2 := Lib.hid (HR.out _ hbn)
            clear hbn u0 r0 p0
            go_enter Try.func41, Try.ntmps41
            go_wp2_with (go_at_call 48; (with_reducible refine HZ.out.mono ?_); rintro e w1 ⟨rfl, hb1⟩; have HB1 := Lib.hid (HBL.out.trans (hb1.mono HBL.out.size)); clear c0 c1 c2 c3 c4 c5; obtain ⟨c0, c1, c2, c3, c4, c5⟩ := (HQ.out.below hb1 HQ.out.lt).six; clear hb1)
            go_ret
            exact ⟨ret_i64 HR2.out.symm, HB1.out⟩
          · rw [u0, r0, p0] at hbn
            have HR2 := Lib.hid (HR.out _ hbn)
            clear hbn u0 r0 p0
            rcases p1 with p1 | ⟨p1, p2⟩
            all_goals
              go_enter Try.func41, Try.ntmps41
              go_wp2_with (go_at_call 48; (with_reducible refine HZ.out.mono ?_); rintro e w1 ⟨rfl, hb1⟩; have HB1 := Lib.hid (HBL.out.trans (hb1.mono HBL.out.size)); clear c0 c1 c2 c3 c4 c5; obtain ⟨c0, c1, c2, c3, c4, c5⟩ := (HQ.out.below hb1 HQ.out.lt).six; clear hb1)
              go_ret
              exact ⟨ret_i64 HR2.out.symm, HB1.out⟩
        · rw [u0, r0, Bool.false_and, Bool.and_false] at hbn
          have HR2 := Lib.hid (HR.out _ hbn)
          clear hbn u0 r0
          rcases r1 with r1 | ⟨r1, r2⟩
          all_goals
            go_enter Try.func41, Try.ntmps41
            go_wp2_with (go_at_call 48; (with_reducible refine HZ.out.mono ?_); rintro e w1 ⟨rfl, hb1⟩; have HB1 := Lib.hid (HBL.out.trans (hb1.mono HBL.out.size)); clear c0 c1 c2 c3 c4 c5; obtain ⟨c0, c1, c2, c3, c4, c5⟩ := (HQ.out.below hb1 HQ.out.lt).six; clear hb1)
            go_ret
            exact ⟨ret_i64 HR2.out.symm, HB1.out⟩
      · rw [u0, Bool.false_and] at hbn
        have HR2 := Lib.hid (HR.out _ hbn)
        clear hbn u0
        rcases u1 with u1 | ⟨u1, u2⟩
        all_goals
          go_enter Try.func41, Try.ntmps41
          go_wp2_with (go_at_call 48; (with_reducible refine HZ.out.mono ?_); rintro e w1 ⟨rfl, hb1⟩; have HB1 := Lib.hid (HBL.out.trans (hb1.mono HBL.out.size)); clear c0 c1 c2 c3 c4 c5; obtain ⟨c0, c1, c2, c3, c4, c5⟩ := (HQ.out.below hb1 HQ.out.lt).six; clear hb1)
          go_ret
          exact ⟨ret_i64 HR2.out.symm, HB1.out⟩
    · have HR := Lib.hid (ckN_zs (b := ⟨k, A, n, c, u, r, p, sh, zs⟩) hv0 HE.out h0)
      have h0q : (ev != 0) = true := by simp [h0]
      clear h0 hv0
      go_enter Try.func41, Try.ntmps41
      go_wp2_with (go_at_call 48; (with_reducible refine HZ.out.mono ?_); rintro e w1 ⟨rfl, hb1⟩; have HB1 := Lib.hid (HBL.out.trans (hb1.mono HBL.out.size)); clear hb1)
      go_ret
      exact ⟨ret_i64 HR.out.symm, HB1.out⟩
  · have HR := Lib.hid (ckN_kind (b := ⟨k, A, n, c, u, r, p, sh, zs⟩) hv0)
    clear hv0
    rcases hd with d1 | ⟨d1, d2⟩
    all_goals
      go_enter Try.func41, Try.ntmps41
      go_wp2
      go_ret
      exact ⟨ret_i64 HR.out.symm, HBL.out⟩
end Go.Proofs.Ythjckkcafhiomaa.Pd
