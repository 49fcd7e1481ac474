/- Walks: number, comparison and holds of the reference. -/
import Derived.Test.YtklpaonhmmfioaaEvR
import Derived.Lib.QuietBelow
namespace Go.Proofs.Ytklpaonhmmfioaa.Ck
open Go Go.Lib Go.RowKit Go.Proofs.Ytklpaonhmmfioaa

theorem HSt.re {w0 W : World} {g : Nat} {v : En} {ec : Array Value} (h : HSt w0 g v ec W) (d : Nat) (os : Array Obj) : HSt w0 g v ec (Go.Sort.grow (redrawn W d) os) := h.keep (below_regrown W d os)
theorem HSt.quiet {w0 W Wq : World} {g : Nat} {v : En} {ec : Array Value} (h : HSt w0 g v ec W) (hw : ∃ p : Regrown, Wq = Go.Sort.grow (redrawn W p.d) p.os) : HSt w0 g v ec Wq := by
  obtain ⟨p, rfl⟩ := hw; exact h.re _ _
abbrev RNumC (k : Nat) (v : En) : Prop := ∀ (o m : Int) (t : ByteArray) (us : List Ex) (A : Option Addr) (d n c : Nat) (W : World) (x : Int) (b : Bool), sortX k (.mk o m t us) = (1, 0) → XA W d A us → us.length = n → n ≤ c → c ≤ maxLen → t.size ≤ maxLen → OV (numV v (.mk o m t us)) x b →
  Calls Try.prog 27 #[.agg #[.int .i64 o, .int .i64 m, .string t, .slice A n c], .agg #[.int .i64 v.a0, .int .i64 v.a1, .int .i64 v.a2, .int .i64 v.a3, .int .i64 v.a4, .int .i64 v.a5, .string v.zn, .string v.bn, .bool v.fm]] W fun e w' => e = .returned (.tuple #[.int .i64 x, .bool b]) ∧ Below W.heap.size W w'
/-- Two operands in memory. -/
theorem XA.pair {w : World} {d : Nat} {A : Option Addr} {a b : Ex} (hA : XA w d A [a, b]) : ∃ (b0 off : Nat) (o1 n1 : Int) (t1 : ByteArray) (us1 : List Ex) (A1 : Option Addr) (m1 c1 : Nat) (o2 n2 : Int) (t2 : ByteArray) (us2 : List Ex) (A2 : Option Addr) (m2 c2 : Nat), A = some ⟨b0, off, none⟩ ∧ b0 < w.heap.size ∧ a = .mk o1 n1 t1 us1 ∧ b = .mk o2 n2 t2 us2 ∧ us1.length = m1 ∧ us2.length = m2 ∧
    (w.cell? ⟨b0, off, none⟩ = some (.int .i64 o1) ∧ w.cell? ⟨b0, off + 1, none⟩ = some (.int .i64 n1) ∧ w.cell? ⟨b0, off + 2, none⟩ = some (.string t1) ∧ w.cell? ⟨b0, off + 3, none⟩ = some (.slice A1 m1 c1)) ∧ (w.cell? ⟨b0, off + 4, none⟩ = some (.int .i64 o2) ∧ w.cell? ⟨b0, off + 4 + 1, none⟩ = some (.int .i64 n2) ∧ w.cell? ⟨b0, off + 4 + 2, none⟩ = some (.string t2) ∧ w.cell? ⟨b0, off + 4 + 3, none⟩ = some (.slice A2 m2 c2)) ∧
    (m1 ≤ c1 ∧ c1 ≤ maxLen ∧ t1.size ≤ maxLen ∧ XA w (d - 1) A1 us1) ∧ (m2 ≤ c2 ∧ c2 ≤ maxLen ∧ t2.size ≤ maxLen ∧ XA w (d - 1) A2 us2) := by
  obtain ⟨b0, off, o1, n1, t1, us1, A1, c1, eA, hbl, hi1, e0, e1, e2, e3, u1, u2, u3, X1⟩ := hA.at (i := 0) (by simp)
  obtain ⟨b0', off', o2, n2, t2, us2, A2, c2, eA', -, hi2, f0, f1, f2, f3, v1, v2, v3, X2⟩ := hA.at (i := 1) (by simp)
  rw [eA] at eA'
  obtain ⟨rfl, rfl⟩ : b0 = b0' ∧ off = off' := by cases eA'; exact ⟨rfl, rfl⟩
  simp only [Nat.zero_mul, Nat.one_mul, Nat.add_zero] at e0 e1 e2 e3 f0 f1 f2 f3
  exact ⟨b0, off, o1, n1, t1, us1, A1, us1.length, c1, o2, n2, t2, us2, A2, us2.length, c2, eA, hbl, by simpa using hi1, by simpa using hi2, rfl, rfl, ⟨e0, e1, e2, e3⟩, ⟨f0, f1, f2, f3⟩, ⟨u1, u2, u3, X1⟩, ⟨v1, v2, v3, X2⟩⟩
set_option maxRecDepth 100000 in
set_option maxHeartbeats 16000000 in
theorem refNumber_any (v : En) : ∀ k, RNumC k v := by
  intro k
  induction k with
  | zero => intro o m t us A d n c W x b h; obtain ⟨j, hj⟩ := sort_pos h; cases hj
  | succ k ih =>
    intro op num tx args A d n c w x b hs hA hn hc hm ht hv
    have hst := HSt.new w v #[.int .i64 op, .int .i64 num, .string tx, .slice A n c]
    obtain ⟨k0, k1, k2, k3⟩ := four hst.2.2.1
    obtain ⟨d0, d1, d2, d3, d4, d5, d6, d7, d8⟩ := nine hst.2.2.2
    have HS := Lib.hid hst
    have hcs := sort_cases hs
    clear hst hs
    rcases hcs with ⟨rfl, rfl, -, -⟩ | ⟨rfl, -, h1⟩ | ⟨rfl, rfl, -⟩ | ⟨-, h1, -⟩ | ⟨-, h1, -⟩ | ⟨-, h1, -⟩ | ⟨-, h1, -⟩ | ⟨hop, -, a, e, rfl, ha, he⟩
    · rw [numV_num] at hv
      obtain ⟨rfl, rfl⟩ : x = num ∧ b = true := ⟨hv.1, hv.2⟩
      clear hv hA hn
      go_enter Try.func27, Try.ntmps27
      go_wp2_with fail
      go_ret2
      exact ⟨rfl, HS.out.1⟩
    · exact absurd h1 (by decide)
    · rw [numV_name] at hv
      have HAT := Lib.hid (fun W => refAttN_any v tx _ rfl W)
      obtain ⟨at1, hat⟩ : ∃ z, attN v tx = z := ⟨_, rfl⟩
      rw [hat] at hv HAT
      have HW := Lib.hid (fun W => refWithin_is hv W)
      clear hv hA hn hat
      go_enter Try.func27, Try.ntmps27
      go_wp2_with (first
        | (go_at_call 39; (with_reducible refine (HAT.out _).mono ?_); rintro e w1 ⟨rfl, hb1⟩; have HS1 := Lib.hid (HS.out.keep hb1); clear hb1 k0 k1 k2 k3 d0 d1 d2 d3 d4 d5 d6 d7 d8)
        | (go_at_call 38; (with_reducible refine (HW.out _).mono ?_); rintro e w2 ⟨rfl, rfl⟩))
      go_ret2
      exact ⟨rfl, HS1.out.1⟩
    · exact absurd h1 (by decide)
    · exact absurd h1 (by decide)
    · exact absurd h1 (by decide)
    · exact absurd h1 (by decide)
    · obtain rfl : n = 2 := by rw [← hn]; rfl
      rw [numV_two v (by omega) (by omega)] at hv
      obtain ⟨y, p, hva⟩ := OV.ex (numV v a)
      obtain ⟨z, q, hve⟩ := OV.ex (numV v e)
      obtain ⟨b0, off, o1, n1, t1, us1, A1, m1, c1, o2, n2, t2, us2, A2, m2, c2, rfl, hbl, rfl, rfl, hm1, hm2, he1, he2, ⟨u1, u2, u3, X1⟩, ⟨v1, v2, v3, X2⟩⟩ := hA.pair
      have HF := Lib.hid he2
      have HL := Lib.hid hbl
      obtain ⟨-, l0, l1, l2, l3, -⟩ := HS.out.cells he1 hbl
      have HCA := Lib.hid (fun W (h : HSt w w.heap.size v #[.int .i64 op, .int .i64 num, .string tx, .slice (some ⟨b0, off, none⟩) 2 c] W) => ih o1 n1 t1 us1 A1 (d - 1) m1 c1 W y p ha (X1.below h.1) hm1 u1 u2 u3 hva)
      have HCB := Lib.hid (fun W (h : HSt w w.heap.size v #[.int .i64 op, .int .i64 num, .string tx, .slice (some ⟨b0, off, none⟩) 2 c] W) => ih o2 n2 t2 us2 A2 (d - 1) m2 c2 W z q he (X2.below h.1) hm2 v1 v2 v3 hve)
      have dop : (op == 1) = false := by simp; omega
      have dop3 : (op == 3) = false := by simp; omega
      clear hA hn X1 X2 ih he1 he2 hm1 hm2 u1 u2 u3 v1 v2 v3 hbl
      cases hpq : (p && q)
      · have hno : opO op (numV v (.mk o1 n1 t1 us1)) (numV v (.mk o2 n2 t2 us2)) = none := by
          cases p
          · rw [hva.no.1]; rfl
          · cases q
            · rw [hve.no.1]; cases numV v (.mk o1 n1 t1 us1) <;> rfl
            · cases hpq
        rw [hno] at hv
        obtain ⟨rfl, rfl⟩ : x = 0 ∧ b = false := ⟨hv.1, hv.2⟩
        clear hv hva hve hno ha he
        cases p <;> cases q
        case true.true => exact absurd hpq (by decide)
        all_goals
          clear hpq
          go_enter Try.func27, Try.ntmps27
          go_wp2_with fail
          have g0 := fun d os => cell_regrown k3 d os
          have g1 := fun d os => cell_regrown l0 d os
          have g2 := fun d os => cell_regrown l1 d os
          have g3 := fun d os => cell_regrown l2 d os
          have g4 := fun d os => cell_regrown l3 d os
          have g5 := fun d os => cell_regrown d0 d os
          have g6 := fun d os => cell_regrown d1 d os
          have g7 := fun d os => cell_regrown d2 d os
          have g8 := fun d os => cell_regrown d3 d os
          have g9 := fun d os => cell_regrown d4 d os
          have g10 := fun d os => cell_regrown d5 d os
          have g11 := fun d os => cell_regrown d6 d os
          have g12 := fun d os => cell_regrown d7 d os
          have g13 := fun d os => cell_regrown d8 d os
          refine wp_region_quiet_below (by kernel_rfl) (by kernel_rfl) ?_
          iterate 11 (go_big_quiet_step ((with_reducible exact Calls.regrown_of (HCA.out _ (HS.out.re _ _)))))
          refine wpQuiet_nil ?_
          intro W5 hw'
          have HS1 := Lib.hid (HS.out.quiet hw')
          clear hw' g0 g1 g2 g3 g4 g5 g6 g7 g8 g9 g10 g11 g12 g13 k0 k1 k2 k3 d0 d1 d2 d3 d4 d5 d6 d7 d8 l0 l1 l2 l3
          go_wp2_with fail
          obtain ⟨k0, k1, k2, k3⟩ := four HS1.out.2.2.1
          obtain ⟨d0, d1, d2, d3, d4, d5, d6, d7, d8⟩ := nine HS1.out.2.2.2
          obtain ⟨-, l4, l5, l6, l7, -⟩ := HS1.out.cells HF.out HL.out
          have g0 := fun d os => cell_regrown k3 d os
          have g1 := fun d os => cell_regrown l4 d os
          have g2 := fun d os => cell_regrown l5 d os
          have g3 := fun d os => cell_regrown l6 d os
          have g4 := fun d os => cell_regrown l7 d os
          have g5 := fun d os => cell_regrown d0 d os
          have g6 := fun d os => cell_regrown d1 d os
          have g7 := fun d os => cell_regrown d2 d os
          have g8 := fun d os => cell_regrown d3 d os
          have g9 := fun d os => cell_regrown d4 d os
          have g10 := fun d os => cell_regrown d5 d os
          have g11 := fun d os => cell_regrown d6 d os
          have g12 := fun d os => cell_regrown d7 d os
          have g13 := fun d os => cell_regrown d8 d os
          refine wp_region_quiet_below (by kernel_rfl) (by kernel_rfl) ?_
          iterate 11 (go_big_quiet_step ((with_reducible exact Calls.regrown_of (HCB.out _ (HS1.out.re _ _)))))
          refine wpQuiet_nil ?_
          intro W6 hw'
          have HS2 := Lib.hid (HS1.out.quiet hw')
          clear hw' g0 g1 g2 g3 g4 g5 g6 g7 g8 g9 g10 g11 g12 g13 k0 k1 k2 k3 d0 d1 d2 d3 d4 d5 d6 d7 d8 l4 l5 l6 l7
          obtain ⟨k0, k1, k2, k3⟩ := four HS2.out.2.2.1
          go_wp2_with fail
          go_ret2
          exact ⟨rfl, HS2.out.1⟩

      · obtain ⟨rfl, rfl⟩ : p = true ∧ q = true := by simpa using hpq
        have h1 := hva.yes; have h2 := hve.yes
        obtain ⟨ya, yb⟩ := numV_le v ha h1
        obtain ⟨za, zb⟩ := numV_le v he h2
        rw [h1, h2] at hv
        have hv : OV (opN op y z) x b := hv
        clear hva hve hpq ha he h1 h2
        rcases hop with rfl | rfl | rfl | rfl | rfl
        · rw [opN_add] at hv
          have HO := Lib.hid (fun W => refAdd_is hv ⟨ya, yb⟩ ⟨za, zb⟩ W)
          clear hv
          go_enter Try.func27, Try.ntmps27
          go_wp2_with fail
          have g0 := fun d os => cell_regrown k3 d os
          have g1 := fun d os => cell_regrown l0 d os
          have g2 := fun d os => cell_regrown l1 d os
          have g3 := fun d os => cell_regrown l2 d os
          have g4 := fun d os => cell_regrown l3 d os
          have g5 := fun d os => cell_regrown d0 d os
          have g6 := fun d os => cell_regrown d1 d os
          have g7 := fun d os => cell_regrown d2 d os
          have g8 := fun d os => cell_regrown d3 d os
          have g9 := fun d os => cell_regrown d4 d os
          have g10 := fun d os => cell_regrown d5 d os
          have g11 := fun d os => cell_regrown d6 d os
          have g12 := fun d os => cell_regrown d7 d os
          have g13 := fun d os => cell_regrown d8 d os
          refine wp_region_quiet_below (by kernel_rfl) (by kernel_rfl) ?_
          iterate 11 (go_big_quiet_step ((with_reducible exact Calls.regrown_of (HCA.out _ (HS.out.re _ _)))))
          refine wpQuiet_nil ?_
          intro W5 hw'
          have HS1 := Lib.hid (HS.out.quiet hw')
          clear hw' g0 g1 g2 g3 g4 g5 g6 g7 g8 g9 g10 g11 g12 g13 k0 k1 k2 k3 d0 d1 d2 d3 d4 d5 d6 d7 d8 l0 l1 l2 l3
          go_wp2_with fail
          obtain ⟨k0, k1, k2, k3⟩ := four HS1.out.2.2.1
          obtain ⟨d0, d1, d2, d3, d4, d5, d6, d7, d8⟩ := nine HS1.out.2.2.2
          obtain ⟨-, l4, l5, l6, l7, -⟩ := HS1.out.cells HF.out HL.out
          have g0 := fun d os => cell_regrown k3 d os
          have g1 := fun d os => cell_regrown l4 d os
          have g2 := fun d os => cell_regrown l5 d os
          have g3 := fun d os => cell_regrown l6 d os
          have g4 := fun d os => cell_regrown l7 d os
          have g5 := fun d os => cell_regrown d0 d os
          have g6 := fun d os => cell_regrown d1 d os
          have g7 := fun d os => cell_regrown d2 d os
          have g8 := fun d os => cell_regrown d3 d os
          have g9 := fun d os => cell_regrown d4 d os
          have g10 := fun d os => cell_regrown d5 d os
          have g11 := fun d os => cell_regrown d6 d os
          have g12 := fun d os => cell_regrown d7 d os
          have g13 := fun d os => cell_regrown d8 d os
          refine wp_region_quiet_below (by kernel_rfl) (by kernel_rfl) ?_
          iterate 11 (go_big_quiet_step ((with_reducible exact Calls.regrown_of (HCB.out _ (HS1.out.re _ _)))))
          refine wpQuiet_nil ?_
          intro W6 hw'
          have HS2 := Lib.hid (HS1.out.quiet hw')
          clear hw' g0 g1 g2 g3 g4 g5 g6 g7 g8 g9 g10 g11 g12 g13 k0 k1 k2 k3 d0 d1 d2 d3 d4 d5 d6 d7 d8 l4 l5 l6 l7
          obtain ⟨k0, k1, k2, k3⟩ := four HS2.out.2.2.1
          go_wp2_with (go_at_call 40; (with_reducible refine (HO.out _).mono ?_); rintro e w7 ⟨rfl, rfl⟩)
          go_ret2
          exact ⟨rfl, HS2.out.1⟩
        · rw [opN_sub] at hv
          have HO := Lib.hid (fun W => refAdd_is hv ⟨ya, yb⟩ ⟨by omega, by omega⟩ W)
          clear hv
          go_enter Try.func27, Try.ntmps27
          go_wp2_with fail
          have g0 := fun d os => cell_regrown k3 d os
          have g1 := fun d os => cell_regrown l0 d os
          have g2 := fun d os => cell_regrown l1 d os
          have g3 := fun d os => cell_regrown l2 d os
          have g4 := fun d os => cell_regrown l3 d os
          have g5 := fun d os => cell_regrown d0 d os
          have g6 := fun d os => cell_regrown d1 d os
          have g7 := fun d os => cell_regrown d2 d os
          have g8 := fun d os => cell_regrown d3 d os
          have g9 := fun d os => cell_regrown d4 d os
          have g10 := fun d os => cell_regrown d5 d os
          have g11 := fun d os => cell_regrown d6 d os
          have g12 := fun d os => cell_regrown d7 d os
          have g13 := fun d os => cell_regrown d8 d os
          refine wp_region_quiet_below (by kernel_rfl) (by kernel_rfl) ?_
          iterate 11 (go_big_quiet_step ((with_reducible exact Calls.regrown_of (HCA.out _ (HS.out.re _ _)))))
          refine wpQuiet_nil ?_
          intro W5 hw'
          have HS1 := Lib.hid (HS.out.quiet hw')
          clear hw' g0 g1 g2 g3 g4 g5 g6 g7 g8 g9 g10 g11 g12 g13 k0 k1 k2 k3 d0 d1 d2 d3 d4 d5 d6 d7 d8 l0 l1 l2 l3
          go_wp2_with fail
          obtain ⟨k0, k1, k2, k3⟩ := four HS1.out.2.2.1
          obtain ⟨d0, d1, d2, d3, d4, d5, d6, d7, d8⟩ := nine HS1.out.2.2.2
          obtain ⟨-, l4, l5, l6, l7, -⟩ := HS1.out.cells HF.out HL.out
          have g0 := fun d os => cell_regrown k3 d os
          have g1 := fun d os => cell_regrown l4 d os
          have g2 := fun d os => cell_regrown l5 d os
          have g3 := fun d os => cell_regrown l6 d os
          have g4 := fun d os => cell_regrown l7 d os
          have g5 := fun d os => cell_regrown d0 d os
          have g6 := fun d os => cell_regrown d1 d os
          have g7 := fun d os => cell_regrown d2 d os
          have g8 := fun d os => cell_regrown d3 d os
          have g9 := fun d os => cell_regrown d4 d os
          have g10 := fun d os => cell_regrown d5 d os
          have g11 := fun d os => cell_regrown d6 d os
          have g12 := fun d os => cell_regrown d7 d os
          have g13 := fun d os => cell_regrown d8 d os
          refine wp_region_quiet_below (by kernel_rfl) (by kernel_rfl) ?_
          iterate 11 (go_big_quiet_step ((with_reducible exact Calls.regrown_of (HCB.out _ (HS1.out.re _ _)))))
          refine wpQuiet_nil ?_
          intro W6 hw'
          have HS2 := Lib.hid (HS1.out.quiet hw')
          clear hw' g0 g1 g2 g3 g4 g5 g6 g7 g8 g9 g10 g11 g12 g13 k0 k1 k2 k3 d0 d1 d2 d3 d4 d5 d6 d7 d8 l4 l5 l6 l7
          obtain ⟨k0, k1, k2, k3⟩ := four HS2.out.2.2.1
          go_wp2_with (go_at_call 40; (with_reducible refine (HO.out _).mono ?_); rintro e w7 ⟨rfl, rfl⟩)
          go_ret2
          exact ⟨rfl, HS2.out.1⟩
        · rw [opN_mul] at hv
          have HO := Lib.hid (fun W => refMul_is hv ⟨ya, yb⟩ ⟨za, zb⟩ W)
          clear hv
          go_enter Try.func27, Try.ntmps27
          go_wp2_with fail
          have g0 := fun d os => cell_regrown k3 d os
          have g1 := fun d os => cell_regrown l0 d os
          have g2 := fun d os => cell_regrown l1 d os
          have g3 := fun d os => cell_regrown l2 d os
          have g4 := fun d os => cell_regrown l3 d os
          have g5 := fun d os => cell_regrown d0 d os
          have g6 := fun d os => cell_regrown d1 d os
          have g7 := fun d os => cell_regrown d2 d os
          have g8 := fun d os => cell_regrown d3 d os
          have g9 := fun d os => cell_regrown d4 d os
          have g10 := fun d os => cell_regrown d5 d os
          have g11 := fun d os => cell_regrown d6 d os
          have g12 := fun d os => cell_regrown d7 d os
          have g13 := fun d os => cell_regrown d8 d os
          refine wp_region_quiet_below (by kernel_rfl) (by kernel_rfl) ?_
          iterate 11 (go_big_quiet_step ((with_reducible exact Calls.regrown_of (HCA.out _ (HS.out.re _ _)))))
          refine wpQuiet_nil ?_
          intro W5 hw'
          have HS1 := Lib.hid (HS.out.quiet hw')
          clear hw' g0 g1 g2 g3 g4 g5 g6 g7 g8 g9 g10 g11 g12 g13 k0 k1 k2 k3 d0 d1 d2 d3 d4 d5 d6 d7 d8 l0 l1 l2 l3
          go_wp2_with fail
          obtain ⟨k0, k1, k2, k3⟩ := four HS1.out.2.2.1
          obtain ⟨d0, d1, d2, d3, d4, d5, d6, d7, d8⟩ := nine HS1.out.2.2.2
          obtain ⟨-, l4, l5, l6, l7, -⟩ := HS1.out.cells HF.out HL.out
          have g0 := fun d os => cell_regrown k3 d os
          have g1 := fun d os => cell_regrown l4 d os
          have g2 := fun d os => cell_regrown l5 d os
          have g3 := fun d os => cell_regrown l6 d os
          have g4 := fun d os => cell_regrown l7 d os
          have g5 := fun d os => cell_regrown d0 d os
          have g6 := fun d os => cell_regrown d1 d os
          have g7 := fun d os => cell_regrown d2 d os
          have g8 := fun d os => cell_regrown d3 d os
          have g9 := fun d os => cell_regrown d4 d os
          have g10 := fun d os => cell_regrown d5 d os
          have g11 := fun d os => cell_regrown d6 d os
          have g12 := fun d os => cell_regrown d7 d os
          have g13 := fun d os => cell_regrown d8 d os
          refine wp_region_quiet_below (by kernel_rfl) (by kernel_rfl) ?_
          iterate 11 (go_big_quiet_step ((with_reducible exact Calls.regrown_of (HCB.out _ (HS1.out.re _ _)))))
          refine wpQuiet_nil ?_
          intro W6 hw'
          have HS2 := Lib.hid (HS1.out.quiet hw')
          clear hw' g0 g1 g2 g3 g4 g5 g6 g7 g8 g9 g10 g11 g12 g13 k0 k1 k2 k3 d0 d1 d2 d3 d4 d5 d6 d7 d8 l4 l5 l6 l7
          obtain ⟨k0, k1, k2, k3⟩ := four HS2.out.2.2.1
          go_wp2_with (go_at_call 41; (with_reducible refine (HO.out _).mono ?_); rintro e w7 ⟨rfl, rfl⟩)
          go_ret2
          exact ⟨rfl, HS2.out.1⟩
        all_goals
          by_cases h0 : z = 0
          · subst h0
            rw [opN_zero (by decide)] at hv
            obtain ⟨rfl, rfl⟩ : x = 0 ∧ b = false := ⟨hv.1, hv.2⟩
            clear hv
            go_enter Try.func27, Try.ntmps27
            go_wp2_with fail
            have g0 := fun d os => cell_regrown k3 d os
            have g1 := fun d os => cell_regrown l0 d os
            have g2 := fun d os => cell_regrown l1 d os
            have g3 := fun d os => cell_regrown l2 d os
            have g4 := fun d os => cell_regrown l3 d os
            have g5 := fun d os => cell_regrown d0 d os
            have g6 := fun d os => cell_regrown d1 d os
            have g7 := fun d os => cell_regrown d2 d os
            have g8 := fun d os => cell_regrown d3 d os
            have g9 := fun d os => cell_regrown d4 d os
            have g10 := fun d os => cell_regrown d5 d os
            have g11 := fun d os => cell_regrown d6 d os
            have g12 := fun d os => cell_regrown d7 d os
            have g13 := fun d os => cell_regrown d8 d os
            refine wp_region_quiet_below (by kernel_rfl) (by kernel_rfl) ?_
            iterate 11 (go_big_quiet_step ((with_reducible exact Calls.regrown_of (HCA.out _ (HS.out.re _ _)))))
            refine wpQuiet_nil ?_
            intro W5 hw'
            have HS1 := Lib.hid (HS.out.quiet hw')
            clear hw' g0 g1 g2 g3 g4 g5 g6 g7 g8 g9 g10 g11 g12 g13 k0 k1 k2 k3 d0 d1 d2 d3 d4 d5 d6 d7 d8 l0 l1 l2 l3
            go_wp2_with fail
            obtain ⟨k0, k1, k2, k3⟩ := four HS1.out.2.2.1
            obtain ⟨d0, d1, d2, d3, d4, d5, d6, d7, d8⟩ := nine HS1.out.2.2.2
            obtain ⟨-, l4, l5, l6, l7, -⟩ := HS1.out.cells HF.out HL.out
            have g0 := fun d os => cell_regrown k3 d os
            have g1 := fun d os => cell_regrown l4 d os
            have g2 := fun d os => cell_regrown l5 d os
            have g3 := fun d os => cell_regrown l6 d os
            have g4 := fun d os => cell_regrown l7 d os
            have g5 := fun d os => cell_regrown d0 d os
            have g6 := fun d os => cell_regrown d1 d os
            have g7 := fun d os => cell_regrown d2 d os
            have g8 := fun d os => cell_regrown d3 d os
            have g9 := fun d os => cell_regrown d4 d os
            have g10 := fun d os => cell_regrown d5 d os
            have g11 := fun d os => cell_regrown d6 d os
            have g12 := fun d os => cell_regrown d7 d os
            have g13 := fun d os => cell_regrown d8 d os
            refine wp_region_quiet_below (by kernel_rfl) (by kernel_rfl) ?_
            iterate 11 (go_big_quiet_step ((with_reducible exact Calls.regrown_of (HCB.out _ (HS1.out.re _ _)))))
            refine wpQuiet_nil ?_
            intro W6 hw'
            have HS2 := Lib.hid (HS1.out.quiet hw')
            clear hw' g0 g1 g2 g3 g4 g5 g6 g7 g8 g9 g10 g11 g12 g13 k0 k1 k2 k3 d0 d1 d2 d3 d4 d5 d6 d7 d8 l4 l5 l6 l7
            obtain ⟨k0, k1, k2, k3⟩ := four HS2.out.2.2.1
            go_wp2_with fail
            go_ret2
            exact ⟨rfl, HS2.out.1⟩
          · have hz : (z == 0) = false := by simpa using h0
            first | rw [opN_div h0] at hv | rw [opN_mod h0] at hv
            obtain ⟨rfl, rfl⟩ : x = _ ∧ b = true := ⟨hv.1, hv.2⟩
            have hd := tdiv_abs y z
            have hd2 : -4611686018427387904 ≤ y.tdiv z := by omega
            have hd3 : y.tdiv z ≤ 4611686018427387904 := by omega
            clear hv hd
            go_enter Try.func27, Try.ntmps27
            go_wp2_with fail
            have g0 := fun d os => cell_regrown k3 d os
            have g1 := fun d os => cell_regrown l0 d os
            have g2 := fun d os => cell_regrown l1 d os
            have g3 := fun d os => cell_regrown l2 d os
            have g4 := fun d os => cell_regrown l3 d os
            have g5 := fun d os => cell_regrown d0 d os
            have g6 := fun d os => cell_regrown d1 d os
            have g7 := fun d os => cell_regrown d2 d os
            have g8 := fun d os => cell_regrown d3 d os
            have g9 := fun d os => cell_regrown d4 d os
            have g10 := fun d os => cell_regrown d5 d os
            have g11 := fun d os => cell_regrown d6 d os
            have g12 := fun d os => cell_regrown d7 d os
            have g13 := fun d os => cell_regrown d8 d os
            refine wp_region_quiet_below (by kernel_rfl) (by kernel_rfl) ?_
            iterate 11 (go_big_quiet_step ((with_reducible exact Calls.regrown_of (HCA.out _ (HS.out.re _ _)))))
            refine wpQuiet_nil ?_
            intro W5 hw'
            have HS1 := Lib.hid (HS.out.quiet hw')
            clear hw' g0 g1 g2 g3 g4 g5 g6 g7 g8 g9 g10 g11 g12 g13 k0 k1 k2 k3 d0 d1 d2 d3 d4 d5 d6 d7 d8 l0 l1 l2 l3
            go_wp2_with fail
            obtain ⟨k0, k1, k2, k3⟩ := four HS1.out.2.2.1
            obtain ⟨d0, d1, d2, d3, d4, d5, d6, d7, d8⟩ := nine HS1.out.2.2.2
            obtain ⟨-, l4, l5, l6, l7, -⟩ := HS1.out.cells HF.out HL.out
            have g0 := fun d os => cell_regrown k3 d os
            have g1 := fun d os => cell_regrown l4 d os
            have g2 := fun d os => cell_regrown l5 d os
            have g3 := fun d os => cell_regrown l6 d os
            have g4 := fun d os => cell_regrown l7 d os
            have g5 := fun d os => cell_regrown d0 d os
            have g6 := fun d os => cell_regrown d1 d os
            have g7 := fun d os => cell_regrown d2 d os
            have g8 := fun d os => cell_regrown d3 d os
            have g9 := fun d os => cell_regrown d4 d os
            have g10 := fun d os => cell_regrown d5 d os
            have g11 := fun d os => cell_regrown d6 d os
            have g12 := fun d os => cell_regrown d7 d os
            have g13 := fun d os => cell_regrown d8 d os
            refine wp_region_quiet_below (by kernel_rfl) (by kernel_rfl) ?_
            iterate 11 (go_big_quiet_step ((with_reducible exact Calls.regrown_of (HCB.out _ (HS1.out.re _ _)))))
            refine wpQuiet_nil ?_
            intro W6 hw'
            have HS2 := Lib.hid (HS1.out.quiet hw')
            clear hw' g0 g1 g2 g3 g4 g5 g6 g7 g8 g9 g10 g11 g12 g13 k0 k1 k2 k3 d0 d1 d2 d3 d4 d5 d6 d7 d8 l4 l5 l6 l7
            obtain ⟨k0, k1, k2, k3⟩ := four HS2.out.2.2.1
            go_wp2_with fail
            go_ret2
            exact ⟨rfl, HS2.out.1⟩
end Go.Proofs.Ytklpaonhmmfioaa.Ck
