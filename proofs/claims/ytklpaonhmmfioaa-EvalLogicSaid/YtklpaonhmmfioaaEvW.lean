/- Walk: holds of the reference. -/
import Derived.Test.YtklpaonhmmfioaaEvU
namespace Go.Proofs.Ytklpaonhmmfioaa.Ck
open Go Go.Lib Go.RowKit Go.Proofs.Ytklpaonhmmfioaa

abbrev RHolC (k : Nat) (v : En) : Prop := ∀ (o m : Int) (t : ByteArray) (us : List Ex) (A : Option Addr) (d n c : Nat) (W : World) (b : Bool), sortX k (.mk o m t us) = (3, 0) → XA W d A us → us.length = n → n ≤ c → c ≤ maxLen → t.size ≤ maxLen → hldV v (.mk o m t us) = b →
  Calls Try.prog 31 #[.agg #[.int .i64 o, .int .i64 m, .string t, .slice A n c], .agg #[.int .i64 v.a0, .int .i64 v.a1, .int .i64 v.a2, .int .i64 v.a3, .int .i64 v.a4, .int .i64 v.a5, .string v.zn, .string v.bn, .bool v.fm]] W fun e w' => e = .returned (.bool b) ∧ Below W.heap.size W w'
set_option maxRecDepth 100000 in
set_option maxHeartbeats 16000000 in
theorem refHolds_any (v : En) : ∀ k, k ≤ 16 → RHolC k v := by
  intro k
  induction k with
  | zero => intro _ o m t us A d n c W b h; obtain ⟨j, hj⟩ := sort_pos h; cases hj
  | succ k ih =>
    intro hk op num tx args A d n c w b hs hA hn hc hm ht hv
    have hst := HSt.new w v #[.int .i64 op, .int .i64 num, .string tx, .slice A n c]
    obtain ⟨k0, k1, k2, k3⟩ := four hst.2.2.1
    obtain ⟨d0, d1, d2, d3, d4, d5, d6, d7, d8⟩ := nine hst.2.2.2
    have HS := Lib.hid hst
    have hih := ih (by omega)
    have hcs := sort_cases hs
    clear hst hs ih
    rcases hcs with ⟨-, -, h1, -, -⟩ | ⟨-, -, h1⟩ | ⟨rfl, rfl, -⟩ | ⟨rfl, -, a, rfl, ha⟩ | ⟨hop, -, a, e, rfl, ha, he⟩ | ⟨hop, -, a, e, t, rfl, ha, he, h12⟩ | ⟨hop, -, a, e, rfl, ha, he⟩ | ⟨-, h1, -⟩
    · exact absurd h1 (by decide)
    · exact absurd h1 (by decide)
    · rw [hldV_name] at hv
      subst hv
      clear hA hn hih
      go_enter Try.func31, Try.ntmps31
      go_wp2_with fail
      go_ret
      exact ⟨rfl, HS.out.1⟩
    · obtain rfl : n = 1 := by rw [← hn]; rfl
      rw [hldV_not] at hv
      obtain ⟨b0, off, o1, n1, t1, us1, A1, c1, rfl, hbl, hi1, e0, e1, e2, e3, u1, u2, u3, X1⟩ := hA.at (i := 0) (by simp)
      obtain rfl : a = .mk o1 n1 t1 us1 := by simpa using hi1
      simp only [Nat.zero_mul, Nat.add_zero] at e0 e1 e2 e3
      obtain ⟨m1, hm1⟩ : ∃ x, us1.length = x := ⟨_, rfl⟩
      rw [hm1] at e3 u1
      obtain ⟨-, l0, l1, l2, l3, -⟩ := HS.out.cells ⟨e0, e1, e2, e3⟩ hbl
      obtain ⟨x, hx⟩ : ∃ x, hldV v (.mk o1 n1 t1 us1) = x := ⟨_, rfl⟩
      rw [hx] at hv
      subst hv
      have HCA := Lib.hid (fun W (h : HSt w w.heap.size v #[.int .i64 4, .int .i64 num, .string tx, .slice (some ⟨b0, off, none⟩) 1 c] W) => hih o1 n1 t1 us1 A1 (d - 1) m1 c1 W x ha (X1.below h.1) hm1 u1 u2 u3 hx)
      clear hA hn hih ha hx X1 hm1 u1 u2 u3 e0 e1 e2 e3 hi1 hbl
      go_enter Try.func31, Try.ntmps31
      go_wp2_with fail
      have g0 := fun d os => cell_regrown k3 d os
      have g1 := fun d os => cell_regrown l0 d os
      have g2 := fun d os => cell_regrown l1 d os
      have g3 := fun d os => cell_regrown l2 d os
      have g4 := fun d os => cell_regrown l3 d os
      have g5 := fun d os => cell_regrown d0 d os
      have g6 := fun d os => cell_regrown d1 d os
      have g7 := fun d os => cell_regrown d2 d os
      have g8 := fun d os => cell_regrown d3 d os
      have g9 := fun d os => cell_regrown d4 d os
      have g10 := fun d os => cell_regrown d5 d os
      have g11 := fun d os => cell_regrown d6 d os
      have g12 := fun d os => cell_regrown d7 d os
      have g13 := fun d os => cell_regrown d8 d os
      refine wp_region_quiet_below (by kernel_rfl) (by kernel_rfl) ?_
      iterate 8 (go_big_quiet_step ((with_reducible exact Calls.regrown_of (HCA.out _ (HS.out.re _ _)))))
      refine wpQuiet_nil ?_
      intro W5 hw'
      have HS2 := Lib.hid (HS.out.quiet hw')
      clear hw' g0 g1 g2 g3 g4 g5 g6 g7 g8 g9 g10 g11 g12 g13 k0 k1 k2 k3 d0 d1 d2 d3 d4 d5 d6 d7 d8 l0 l1 l2 l3
      go_wp2_with fail
      go_ret
      exact ⟨rfl, HS2.out.1⟩
    · obtain rfl : n = 2 := by rw [← hn]; rfl
      obtain ⟨b0, off, o1, n1, t1, us1, A1, m1, c1, o2, n2, t2, us2, A2, m2, c2, rfl, hbl, rfl, rfl, hm1, hm2, he1, he2, ⟨u1, u2, u3, X1⟩, ⟨v1, v2, v3, X2⟩⟩ := hA.pair
      obtain ⟨-, l0, l1, l2, l3, l4, l5, l6, l7, -⟩ := HS.out.cells2 he1 he2 hbl
      obtain ⟨x, hx⟩ : ∃ x, hldV v (.mk o1 n1 t1 us1) = x := ⟨_, rfl⟩
      obtain ⟨y, hy⟩ : ∃ y, hldV v (.mk o2 n2 t2 us2) = y := ⟨_, rfl⟩
      have HCA := Lib.hid (fun W (h : HSt w w.heap.size v #[.int .i64 op, .int .i64 num, .string tx, .slice (some ⟨b0, off, none⟩) 2 c] W) => hih o1 n1 t1 us1 A1 (d - 1) m1 c1 W x ha (X1.below h.1) hm1 u1 u2 u3 hx)
      have HCB := Lib.hid (fun W (h : HSt w w.heap.size v #[.int .i64 op, .int .i64 num, .string tx, .slice (some ⟨b0, off, none⟩) 2 c] W) => hih o2 n2 t2 us2 A2 (d - 1) m2 c2 W y he (X2.below h.1) hm2 v1 v2 v3 hy)
      clear hA hn hih hm1 hm2 u1 u2 u3 v1 v2 v3 he1 he2 hbl X1 X2
      rcases hop with rfl | rfl
      · rw [hldV_and, hx, hy] at hv
        subst hv
        clear ha he hx hy
        cases x
        all_goals
          go_enter Try.func31, Try.ntmps31
          go_wp2_with fail
          have g0 := fun d os => cell_regrown k3 d os
          have g1 := fun d os => cell_regrown l0 d os
          have g2 := fun d os => cell_regrown l1 d os
          have g3 := fun d os => cell_regrown l2 d os
          have g4 := fun d os => cell_regrown l3 d os
          have g5 := fun d os => cell_regrown l4 d os
          have g6 := fun d os => cell_regrown l5 d os
          have g7 := fun d os => cell_regrown l6 d os
          have g8 := fun d os => cell_regrown l7 d os
          have g9 := fun d os => cell_regrown d0 d os
          have g10 := fun d os => cell_regrown d1 d os
          have g11 := fun d os => cell_regrown d2 d os
          have g12 := fun d os => cell_regrown d3 d os
          have g13 := fun d os => cell_regrown d4 d os
          have g14 := fun d os => cell_regrown d5 d os
          have g15 := fun d os => cell_regrown d6 d os
          have g16 := fun d os => cell_regrown d7 d os
          have g17 := fun d os => cell_regrown d8 d os
          refine wp_region_quiet_below (by kernel_rfl) (by kernel_rfl) ?_
          iterate 15 (go_big_quiet_step (first | (with_reducible exact Calls.regrown_of (HCA.out _ (HS.out.re _ _))) | (with_reducible exact Calls.regrown_of (HCB.out _ (HS.out.re _ _)))))
          refine wpQuiet_nil ?_
          intro W5 hw'
          have HS2 := Lib.hid (HS.out.quiet hw')
          clear hw' g0 g1 g2 g3 g4 g5 g6 g7 g8 g9 g10 g11 g12 g13 g14 g15 g16 g17 k0 k1 k2 k3 d0 d1 d2 d3 d4 d5 d6 d7 d8 l0 l1 l2 l3 l4 l5 l6 l7
          go_wp2_with fail
          go_ret
          exact ⟨rfl, HS2.out.1⟩
      · rw [hldV_or, hx, hy] at hv
        subst hv
        clear ha he hx hy
        cases x
        all_goals
          go_enter Try.func31, Try.ntmps31
          go_wp2_with fail
          have g0 := fun d os => cell_regrown k3 d os
          have g1 := fun d os => cell_regrown l0 d os
          have g2 := fun d os => cell_regrown l1 d os
          have g3 := fun d os => cell_regrown l2 d os
          have g4 := fun d os => cell_regrown l3 d os
          have g5 := fun d os => cell_regrown l4 d os
          have g6 := fun d os => cell_regrown l5 d os
          have g7 := fun d os => cell_regrown l6 d os
          have g8 := fun d os => cell_regrown l7 d os
          have g9 := fun d os => cell_regrown d0 d os
          have g10 := fun d os => cell_regrown d1 d os
          have g11 := fun d os => cell_regrown d2 d os
          have g12 := fun d os => cell_regrown d3 d os
          have g13 := fun d os => cell_regrown d4 d os
          have g14 := fun d os => cell_regrown d5 d os
          have g15 := fun d os => cell_regrown d6 d os
          have g16 := fun d os => cell_regrown d7 d os
          have g17 := fun d os => cell_regrown d8 d os
          refine wp_region_quiet_below (by kernel_rfl) (by kernel_rfl) ?_
          iterate 15 (go_big_quiet_step (first | (with_reducible exact Calls.regrown_of (HCA.out _ (HS.out.re _ _))) | (with_reducible exact Calls.regrown_of (HCB.out _ (HS.out.re _ _)))))
          refine wpQuiet_nil ?_
          intro W5 hw'
          have HS2 := Lib.hid (HS.out.quiet hw')
          clear hw' g0 g1 g2 g3 g4 g5 g6 g7 g8 g9 g10 g11 g12 g13 g14 g15 g16 g17 k0 k1 k2 k3 d0 d1 d2 d3 d4 d5 d6 d7 d8 l0 l1 l2 l3 l4 l5 l6 l7
          go_wp2_with fail
          go_ret
          exact ⟨rfl, HS2.out.1⟩
    · rw [hldV_cmp v (by omega)] at hv
      obtain rfl : n = 2 := by rw [← hn]; rfl
      have HCM := Lib.hid (fun W (h : HSt w w.heap.size v #[.int .i64 op, .int .i64 num, .string tx, .slice A 2 c] W) => refCmp_is (by omega) (op := op) (num := num) (tx := tx) ha he h12 (by omega) hv A d c W (hA.below h.1) hc hm)
      have e3 : (op == 3) = false := by simp; omega
      have e4 : (op == 4) = false := by simp; omega
      have e5 : (op == 5) = false := by simp; omega
      have e6 : (op == 6) = false := by simp; omega
      clear hA hn hih ha he hv hop
      go_enter Try.func31, Try.ntmps31
      go_wp2_with (go_at_call 45; (with_reducible refine (HCM.out _ HS.out).mono ?_); rintro e w1 ⟨rfl, h1⟩; have HS2 := Lib.hid (HS.out.keep h1); clear h1 k0 k1 k2 k3 d0 d1 d2 d3 d4 d5 d6 d7 d8)
      go_ret
      exact ⟨rfl, HS2.out.1⟩
    · rw [hldV_cmp v (by omega)] at hv
      obtain rfl : n = 2 := by rw [← hn]; rfl
      have HCM := Lib.hid (fun W (h : HSt w w.heap.size v #[.int .i64 op, .int .i64 num, .string tx, .slice A 2 c] W) => refCmp_is (by omega) (op := op) (num := num) (tx := tx) ha he (.inl rfl) (by omega) hv A d c W (hA.below h.1) hc hm)
      have e3 : (op == 3) = false := by simp; omega
      have e4 : (op == 4) = false := by simp; omega
      have e5 : (op == 5) = false := by simp; omega
      have e6 : (op == 6) = false := by simp; omega
      clear hA hn hih ha he hv hop
      go_enter Try.func31, Try.ntmps31
      go_wp2_with (go_at_call 45; (with_reducible refine (HCM.out _ HS.out).mono ?_); rintro e w1 ⟨rfl, h1⟩; have HS2 := Lib.hid (HS.out.keep h1); clear h1 k0 k1 k2 k3 d0 d1 d2 d3 d4 d5 d6 d7 d8)
      go_ret
      exact ⟨rfl, HS2.out.1⟩
    · exact absurd h1 (by decide)
end Go.Proofs.Ytklpaonhmmfioaa.Ck
