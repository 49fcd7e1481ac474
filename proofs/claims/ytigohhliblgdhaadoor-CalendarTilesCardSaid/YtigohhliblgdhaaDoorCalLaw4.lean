/- Walk: the law on tiling. -/
import Derived.Test.YtigohhliblgdhaaDoorCalTileM
import Derived.Deep.Cut
import Derived.Deep.DeepCutAuto
import Derived.Lib.QuietBelow
namespace Go.Proofs.YtigohhliblgdhaaDoor
open Go.RowKit

set_option maxHeartbeats 4000000 in
theorem tiles_out (a t p q : Int) (w : World) (h : okA a = false ∨ (okA a = true ∧ okT t = false)) (ht : Tab w) :
    Calls Tryd.prog 7 #[.int .i64 a, .int .i64 t, .agg #[.int .i64 p, .int .i64 q]] w fun e w' => e = .returned (.bool true) ∧ Below w.heap.size w w' := by
  have hcs : a < 1 ∨ (¬ a < 1 ∧ 28 < a) ∨ (¬ a < 1 ∧ ¬ 28 < a ∧ t < 0) ∨ (¬ a < 1 ∧ ¬ 28 < a ∧ ¬ t < 0 ∧ 12622780800 ≤ t) := by
    rcases h with h | ⟨h, h2⟩
    · have := okA_no h; omega
    · have := okA_iff.1 h; have := okT_no h2; omega
  obtain ⟨w0, hw0⟩ : ∃ w0, w.alloc (.cells #[.int .i64 p, .int .i64 q] 37) = w0 := ⟨_, rfl⟩
  have hbase : Below w.heap.size w w0 := by rw [← hw0]; exact (Below.refl _ w).alloc (Nat.le_refl _) _
  have HT := Lib.hid (ht.below hbase)
  have HBase := Lib.hid hbase
  have HA := Lib.hid (fun w t => awake_any w t)
  clear h ht hbase
  rcases hcs with h1 | ⟨h1, h2⟩ | ⟨h1, h2, h3⟩ | ⟨h1, h2, h3, h4⟩
  all_goals
    have hb := Below.refl w0.heap.size w0
    go_enter Tryd.func7, Tryd.ntmps7
    go_wp2_with (go_at_call 13; (with_reducible refine (sinceT HA.out HT.out hb).mono ?_); clear hb; rintro e w1 ⟨rfl, hb⟩)
    go_ret
    exact ⟨rfl, HBase.out.trans (hb.mono HBase.out.size)⟩

set_option maxRecDepth 100000 in
set_option maxHeartbeats 16000000 in
theorem tiles_in (a t p q : Int) (w : World) (ha : 1 ≤ a) (ha2 : a ≤ 28) (ht : 0 ≤ t) (ht2 : t < 12622780800) (hT : Tab w) :
    Calls Tryd.prog 7 #[.int .i64 a, .int .i64 t, .agg #[.int .i64 p, .int .i64 q]] w fun e w' => e = .returned (.bool true) ∧ Below w.heap.size w w' := by
  obtain ⟨w0, hw0⟩ : ∃ w0, w.alloc (.cells #[.int .i64 p, .int .i64 q] 37) = w0 := ⟨_, rfl⟩
  have hbase : Below w.heap.size w w0 := by rw [← hw0]; exact (Below.refl _ w).alloc (Nat.le_refl _) _
  have hB0 : Blk w0 w.heap.size 37 #[.int .i64 p, .int .i64 q] := by rw [← hw0]; exact Blk.new w _ _
  have HT := Lib.hid (hT.below hbase)
  have HBase := Lib.hid hbase
  have HB0 := Lib.hid hB0
  have HA := Lib.hid (fun w t => awake_any w t)
  clear hT hbase hB0
  obtain ⟨s1, s2, s3, s4, s5, s6, s7, s8⟩ := tile_spec ha ha2 ht ht2
  have C1 := Lib.hid (fun w => cycle_in a t w ha ha2 ht ht2)
  have L1 := Lib.hid (fun w => cycles_prs a (st a (mon a t)) (st a (mon a t + 1)) ha ha2 s1 (by omega) s4 w)
  rw [s6] at L1
  have C2 : Hid (st a (mon a t + 1) < 12622780800 → ∃ z, ∀ w, Calls Tryd.prog 20 #[.int .i64 a, .int .i64 (st a (mon a t + 1))] w fun e w' => e = .returned (.agg #[.int .i64 (st a (mon a t + 1)), .int .i64 z]) ∧ Below w.heap.size w w') := fun h => by
    refine ⟨st a (mon a (st a (mon a t + 1)) + 1), fun w => ?_⟩
    have := cycle_in a (st a (mon a t + 1)) w ha ha2 (by omega) h
    rwa [s7 h] at this
  have C3 : Hid (0 < st a (mon a t) → ∃ z, ∀ w, Calls Tryd.prog 20 #[.int .i64 a, .int .i64 (st a (mon a t) - 1)] w fun e w' => e = .returned (.agg #[.int .i64 z, .int .i64 (st a (mon a t))]) ∧ Below w.heap.size w w') := fun h => by
    refine ⟨st a (mon a (st a (mon a t) - 1)), fun w => ?_⟩
    have := cycle_in a (st a (mon a t) - 1) w ha ha2 (by omega) (by omega)
    rwa [s8 h] at this
  have P1 : ∀ w A, Prs w A 1 (fun k => st a (mon a (st a (mon a t)) + k)) (fun k => st a (mon a (st a (mon a t)) + k + 1)) → Prs w A 1 (fun _ => st a (mon a t)) (fun _ => st a (mon a t + 1)) := fun w A h => by
    refine h.congr (fun k hk => ?_) (fun k hk => ?_)
    · obtain rfl : k = 0 := by omega
      rw [s5]; exact congrArg (st a) (by omega)
    · obtain rfl : k = 0 := by omega
      rw [s5]; exact congrArg (st a) (by omega)
  have HP1 := Lib.hid P1
  clear P1 s5 s6 s7 s8
  generalize (fun k : Nat => st a (mon a (st a (mon a t)) + k)) = fx at *
  generalize (fun k : Nat => st a (mon a (st a (mon a t)) + k + 1)) = fy at *
  obtain ⟨x, hx⟩ : ∃ x, st a (mon a t) = x := ⟨_, rfl⟩
  obtain ⟨y, hy⟩ : ∃ y, st a (mon a t + 1) = y := ⟨_, rfl⟩
  rw [hx] at C1 L1 C3 HP1 s1 s2
  rw [hy] at C1 L1 C2 HP1 s3 s4
  clear hx hy
  have hgd := guardPeriod
  have hf0 := fieldFrom
  have hf1 := fieldTo
  have a1 : ¬ a < 1 := by omega
  have a2 : ¬ 28 < a := by omega
  have t1 : ¬ t < 0 := by omega
  have t2 : ¬ 12622780800 ≤ t := by omega
  have hb := Below.refl w0.heap.size w0
  go_enter Tryd.func7, Tryd.ntmps7
  go_wp2_with fail
  refine (since C1.out hb).mono ?_
  clear hb
  rintro e w1 ⟨rfl, hb⟩
  have hB1 := Blk.new w1 37 #[.int .i64 x, .int .i64 y]
  have HB1 := Lib.hid hB1
  obtain ⟨c0, c1⟩ := hB1.two
  have hg1 := hB1.lt
  have d1 : decide (t < x) = false := decide_eq_false (by omega)
  have d2 : decide (y ≤ t) = false := decide_eq_false (by omega)
  replace hb := hb.alloc hb.size (.cells #[.int .i64 x, .int .i64 y] 37)
  go_wp2
  generalize w1.alloc (.cells #[.int .i64 x, .int .i64 y] 37) = wq at *
  generalize w1.heap.size = g at *
  go_cut [46] (fun s wx => s = .bool false ∧ Below w0.heap.size w0 wx ∧ Blk wx g 37 #[.int .i64 x, .int .i64 y])
  case first =>
    have HBd : Hid (Below w0.heap.size w0 wq.drew) := hb.drew
    have HBa : Hid (Below w0.heap.size w0 (wq.alloc (.cells #[.int .i64 x, .int .i64 y] 37)).drew) := (hb.alloc hb.size _).drew
    have HPn : Hid (Prs (wq.alloc (.cells #[.int .i64 x, .int .i64 y] 37)).drew (some ⟨wq.heap.size, 0, none⟩) 1 (fun _ => x) (fun _ => y)) := prs_new wq x y
    have HBd1 : Hid (Blk wq.drew g 37 #[.int .i64 x, .int .i64 y]) := HB1.out
    have HBa1 : Hid (Blk (wq.alloc (.cells #[.int .i64 x, .int .i64 y] 37)).drew g 37 #[.int .i64 x, .int .i64 y]) := Blk.alloc HB1.out _
    clear hb
    go_region_held3 (fun w' => w'.cell? ⟨g, 0, none⟩ = some (.int .i64 x) ∧ w'.cell? ⟨g, 1, none⟩ = some (.int .i64 y)) (go_keep)
      (first
        | (go_at_call 24; (with_reducible refine (sinceL L1.out HBd.out).mono ?_); rintro e w2 ⟨A, c, rfl, hc, hp, hb2, hb2'⟩; have HK2 := Lib.hid (HBd1.out.below hb2' HBd1.out.lt); obtain ⟨e0, e1⟩ := HK2.out.two)
        | (go_at_call 24; (with_reducible refine (sinceL L1.out HBa.out).mono ?_); rintro e w2 ⟨A, c, rfl, hc, hp, hb2, hb2'⟩; have HK2 := Lib.hid (HBa1.out.below hb2' HBa1.out.lt); obtain ⟨e0, e1⟩ := HK2.out.two)
        | (go_at_call 23; (with_reducible refine (same_yes A (some ⟨w2.heap.size, 0, none⟩) 1 c 1 (fun _ => x) (fun _ => y) _ ((HP1.out _ _ hp).below ((Below.refl _ w2).alloc (Nat.le_refl _) _)) (prs_new w2 x y) (by decide) hc (by decide)).mono ?_); rintro e w3 ⟨rfl, hb3⟩; have HB3 := Lib.hid ((hb2.alloc hb2.size _).trans (hb3.mono (hb2.alloc hb2.size _).size)); have HK3 := Lib.hid ((HK2.out.alloc _).below hb3 (HK2.out.alloc _).lt); obtain ⟨i0, i1⟩ := HK3.out.two)
        | (go_at_call 23; (with_reducible refine (same_yes A (some ⟨wq.heap.size, 0, none⟩) 1 c 1 (fun _ => x) (fun _ => y) _ (HP1.out _ _ hp) (HPn.out.below hb2') (by decide) hc (by decide)).mono ?_); rintro e w3 ⟨rfl, hb3⟩; have HB3 := Lib.hid (hb2.trans (hb3.mono hb2.size)); have HK3 := Lib.hid (HK2.out.below hb3 HK2.out.lt); obtain ⟨i0, i1⟩ := HK3.out.two))
    all_goals (go_wp2_with fail; go_meet; exact ⟨rfl, HB3.out, HK3.out⟩)
  case rest =>
    clear hb hB1 c0 c1 hg1 d1 d2
    obtain ⟨rfl, hb, hBc⟩ := hcut
    have HK := Lib.hid hBc
    obtain ⟨c0, c1⟩ := hBc.two
    have hcut1 : (y < 12622780800 ∧ ∃ z, ∀ w, Calls Tryd.prog 20 #[.int .i64 a, .int .i64 y] w fun e w' => e = .returned (.agg #[.int .i64 y, .int .i64 z]) ∧ Below w.heap.size w w') ∨ ¬ y < 12622780800 := by
      by_cases h : y < 12622780800
      · exact .inl ⟨h, C2.out h⟩
      · exact .inr h
    have hcut2 : (0 < x ∧ ∃ z, ∀ w, Calls Tryd.prog 20 #[.int .i64 a, .int .i64 (x - 1)] w fun e w' => e = .returned (.agg #[.int .i64 z, .int .i64 x]) ∧ Below w.heap.size w w') ∨ ¬ 0 < x := by
      by_cases h : 0 < x
      · exact .inl ⟨h, C3.out h⟩
      · exact .inr h
    go_wp2
    go_cut [75] (fun s wx => s = .bool false ∧ Below w0.heap.size w0 wx)
    case first =>
      have k0 := cell_regrown c0
      have k1 := cell_regrown c1
      rcases hcut1 with ⟨y1, z1, hz1⟩ | y1
      case' inl => (have dy : decide (y < 12622780800) = true := decide_eq_true y1; have Z1 := Lib.hid hz1; clear hz1 y1)
      case' inr => (have dy : decide (y < 12622780800) = false := decide_eq_false (by omega); have Z1 := trivial; clear y1)
      all_goals
        rcases hcut2 with ⟨x1, z2, hz2⟩ | x1
        case' inl => (have dx : decide (0 < x) = true := decide_eq_true x1; have Z2 := Lib.hid hz2; clear hz2 x1)
        case' inr => (have dx : decide (0 < x) = false := decide_eq_false (by omega); have Z2 := trivial; clear x1)
      all_goals
        have wr : IntKind.i64.wrap (x - 1) = x - 1 := IntWalk.i64_in _ (by omega)
        refine wp_region_quiet_below (by kernel_rfl) (by kernel_rfl) ?_
        iterate 29 (go_big_quiet_step (first | (with_reducible exact Calls.regrown_of (Z1.out _)) | (with_reducible exact Calls.regrown_of (Z2.out _))))
        refine wpQuiet_nil ?_
        intro _ hw'
        obtain ⟨⟨dq, osq⟩, hw''⟩ := hw'
        subst hw''
        go_wp2_with fail
        go_meet
        exact ⟨rfl, hb.trans ((below_regrown _ dq osq).mono hb.size)⟩
    case rest =>
      clear hb hBc c0 c1 hcut1 hcut2
      obtain ⟨rfl, hb⟩ := hcut
      have HSh := Lib.hid (fun w => short_any p q w)
      obtain ⟨b0, b1⟩ := (HB0.out.below hb HB0.out.lt).two
      cases hsh : shortB p q
      · rw [hsh] at HSh
        clear hsh
        go_wp2_with (first
          | (go_at_call 22; (with_reducible refine (since HSh.out hb).mono ?_); clear hb; rintro e w4 ⟨rfl, hb⟩)
          | (go_at_call 13; (with_reducible refine (sinceT HA.out HT.out hb).mono ?_); clear hb; rintro e w5 ⟨rfl, hb⟩))
        go_ret
        exact ⟨rfl, HBase.out.trans (hb.mono HBase.out.size)⟩
      · rw [hsh] at HSh
        have hpq : 0 ≤ p ∧ p < q ∧ q ≤ 12622780800 := by
          unfold shortB at hsh
          simp only [Bool.and_eq_true] at hsh
          exact okP_iff.1 hsh.1
        obtain ⟨r1, r2, r3, r4, r5, r6⟩ := row_spec ha ha2 hpq.1 hpq.2.1 hpq.2.2
        have L2 := Lib.hid (fun w => cycles_prs a p q ha ha2 hpq.1 hpq.2.1 hpq.2.2 w)
        have E1 := Lib.hid (fun w => cycle_in a p w ha ha2 hpq.1 (by omega))
        have E2 := Lib.hid (fun w => cycle_in a (q - 1) w ha ha2 (by omega) (by omega))
        rw [r3] at E2
        have E3 := Lib.hid (fun (k : Int) (h1 : 1 ≤ k) (h2 : k < cnt a p q) w => by
          have := cycle_in a (st a (mon a p + k)) w ha ha2 (r6 k h1 h2).1 (r6 k h1 h2).2.1
          rwa [(r6 k h1 h2).2.2] at this)
        have hqb : 1 ≤ q ∧ q ≤ 12622780800 := by omega
        generalize cnt a p q = n at *
        generalize mon a p = M at *
        obtain ⟨m, rfl⟩ : ∃ m, n = m + 1 := ⟨n - 1, by omega⟩
        have em : M + (((m + 1 : Nat) : Int) - 1) = M + (m : Int) := by omega
        rw [em] at E2
        have HE0 : Hid (st a (M + ((0 : Nat) : Int)) = st a M ∧ st a (M + ((0 : Nat) : Int) + 1) = st a (M + 1)) := ⟨congrArg (st a) (by omega), congrArg (st a) (by omega)⟩
        clear hsh r3 r6 em
        go_wp2_with fail
        refine (since HSh.out hb).mono ?_
        clear hb
        rintro e w4 ⟨rfl, hb⟩
        clear b0 b1
        obtain ⟨b0, b1⟩ := (HB0.out.below hb HB0.out.lt).two
        go_wp2_with fail
        refine (sinceL L2.out hb).mono ?_
        clear hb
        rintro e w5 ⟨A, c, rfl, hc, hp, hb, _⟩
        clear b0 b1
        obtain ⟨b0, b1⟩ := (HB0.out.below hb HB0.out.lt).two
        have HP := Lib.hid hp
        obtain ⟨B, off, rfl, hBl, f0, f1⟩ := hp 0 r1
        obtain ⟨B', off', he, _, g0, g1⟩ := hp m (by omega)
        simp only [Option.some.injEq, Addr.mk.injEq] at he
        obtain ⟨rfl, rfl, _⟩ := he
        dsimp only at f0 f1 g0 g1
        rw [HE0.out.1] at f0
        rw [HE0.out.2] at f1
        rw [Nat.zero_mul, Nat.add_zero] at f0 f1
        clear hp
        go_wp2
        have k0 := cell_regrown b0
        have k1 := cell_regrown b1
        have k2 := cell_regrown f0
        have k3 := cell_regrown f1
        have k4 := cell_regrown g0
        have k5 := cell_regrown g1
        have q1 := neqPeriod_same (st a M) (st a (M + 1))
        have q2 := neqPeriod_same (st a (M + m)) (st a (M + m + 1))
        generalize st a (M + m) = u1 at *
        generalize st a (M + m + 1) = v1 at *
        generalize st a M = u0 at *
        generalize st a (M + 1) = v0 at *
        have hm0 : (0 : Int) ≤ (m : Int) := by omega
        have hm1 : (m : Int) < (m : Int) + 1 := by omega
        have hm2 : (0 : Int) < (m : Int) + 1 := by omega
        have hl0 : ((m : Int) + 1 == 0) = false := by rw [beq_eq_false_iff_ne]; omega
        have hwr : IntKind.i64.wrap (q - 1) = q - 1 := IntWalk.i64_in _ (by omega)
        refine wp_region_quiet_below (by kernel_rfl) (by kernel_rfl) ?_
        iterate 27 (go_big_quiet_step (first | (with_reducible exact Calls.regrown_of (E1.out _)) | (with_reducible exact Calls.regrown_of (E2.out _))))
        refine wpQuiet_nil ?_
        intro _ hw'
        obtain ⟨⟨dq, osq⟩, hw''⟩ := hw'
        subst hw''
        have hbq := below_regrown w5 dq osq
        replace hb := hb.trans (hbq.mono hb.size)
        have HPq := Lib.hid (HP.out.below hbq)
        clear k0 k1 k2 k3 k4 k5 q1 q2 b0 b1 f0 f1 g0 g1 hbq
        generalize «Sort».grow (redrawn w5 dq) osq = w6 at *
        go_wp2
        clear hwr hm0 hm1 hm2 hl0 E1 E2
        go_loopw [9] (fun i wr => ∃ j : Nat, j ≤ m ∧ i = .int .i64 ((j : Int) + 1) ∧ Below w0.heap.size w0 wr ∧ Below w6.heap.size w6 wr) (fun i _ => (m + 1 - intOf i).toNat)
        case atStart => exact ⟨0, by omega, by simp, hb, Below.refl _ _⟩
        case round =>
          clear hb
          obtain ⟨j, hj, rfl, hb, hb6⟩ := hrel
          have hj0 : (0 : Int) ≤ (j : Int) := by omega
          by_cases hlt : j < m
          · have hp := HPq.out.below hb6
            obtain ⟨B', off', he, _, f0, f1⟩ := hp (j + 1) (by omega)
            simp only [Option.some.injEq, Addr.mk.injEq] at he
            obtain ⟨rfl, rfl, _⟩ := he
            obtain ⟨B', off', he, _, g0, g1⟩ := hp j (by omega)
            simp only [Option.some.injEq, Addr.mk.injEq] at he
            obtain ⟨rfl, rfl, _⟩ := he
            have E4 := Lib.hid (E3.out ((j : Int) + 1) (by omega) (by omega))
            have e1 : M + ((j + 1 : Nat) : Int) = M + ((j : Int) + 1) := by omega
            have e2 : M + (j : Int) + 1 = M + ((j : Int) + 1) := by omega
            dsimp only at f0 f1 g1
            rw [e1] at f0 f1
            rw [e2] at g1
            generalize st a (M + ((j : Int) + 1)) = u at *
            generalize st a (M + ((j : Int) + 1) + 1) = v at *
            have q1 := neqPeriod_same u v
            have k0 := cell_regrown f0
            have k1 := cell_regrown f1
            have k2 := cell_regrown g1
            have hlt' : (j : Int) + 1 < (m : Int) + 1 := by omega
            have hlt2 : (j : Int) < (m : Int) + 1 := by omega
            have hj1 : (0 : Int) ≤ (j : Int) + 1 := by omega
            clear e1 e2 hp f0 f1 g0 g1
            go_wp2
            refine wp_region_quiet_below (by kernel_rfl) (by kernel_rfl) ?_
            iterate 26 (go_big_quiet_step (with_reducible exact Calls.regrown_of (E4.out _)))
            refine wpQuiet_nil ?_
            intro _ hw'
            obtain ⟨⟨dq, osq⟩, hw''⟩ := hw'
            subst hw''
            have hbq := below_regrown wr dq osq
            have hb' := hb.trans (hbq.mono hb.size)
            have hb6' := hb6.trans (hbq.mono hb6.size)
            clear k0 k1 k2 q1 hbq
            generalize «Sort».grow (redrawn wr dq) osq = w7 at *
            go_wp2
            go_roundw
            case rel => exact ⟨j + 1, by omega, by go_num, hb', hb6'⟩
            case measure => simp [intOf]; omega
          · obtain rfl : j = m := by omega
            go_wp2_with (go_at_call 13; (with_reducible refine (sinceT HA.out HT.out hb).mono ?_); clear hb; rintro e w8 ⟨rfl, hb⟩)
            go_ret
            exact ⟨rfl, HBase.out.trans (hb.mono HBase.out.size)⟩
theorem walkCalendarTiles (a t p q : Int) (w : World) (_ : (Lit.int .i64 a).wf = true) (_ : (Lit.int .i64 t).wf = true) (_ : (Lit.int .i64 p).wf = true) (_ : (Lit.int .i64 q).wf = true) (hT : Tab w) :
    Calls Tryd.prog 7 #[.int .i64 a, .int .i64 t, .agg #[.int .i64 p, .int .i64 q]] w fun e w' => e = .returned (.bool true) ∧ Below w.heap.size w w' := by
  cases ha : okA a
  · exact tiles_out a t p q w (.inl ha) hT
  · cases ht : okT t
    · exact tiles_out a t p q w (.inr ⟨ha, ht⟩) hT
    · obtain ⟨a1, a2⟩ := okA_iff.1 ha
      obtain ⟨t1, t2⟩ := okT_iff.1 ht
      exact tiles_in a t p q w a1 a2 t1 t2 hT
end Go.Proofs.YtigohhliblgdhaaDoor
