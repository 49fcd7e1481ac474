/- Walks: comparison and holds of the reference. -/
import Derived.Test.YtklpaonhmmfioaaEvT
namespace Go.Proofs.Ytklpaonhmmfioaa.Ck
open Go Go.Lib Go.RowKit Go.Proofs.Ytklpaonhmmfioaa

theorem refIs {op num : Int} {tx : ByteArray} {args : List Ex} {s v : Int} (h : sortX 16 (.mk op num tx args) = (s, v)) (A : Option Addr) (d n c : Nat) (w : World) (hA : XA w d A args) (hn : args.length = n) (hc : n ≤ c) (hm : c ≤ maxLen) (ht : tx.size ≤ maxLen) :
    Calls Try.prog 26 #[.agg #[.int .i64 op, .int .i64 num, .string tx, .slice A n c]] w fun e w' => e = .returned (.tuple #[.int .i64 s, .int .i64 v]) ∧ Below w.heap.size w w' := by
  have := refExpr_any op num tx args A d n c w hA hn hc hm ht
  unfold SoOut at this
  rw [h] at this
  exact this
set_option maxRecDepth 100000 in
set_option maxHeartbeats 16000000 in
theorem refCmp_is {k : Nat} (hk : k ≤ 16) {v : En} {op num : Int} {tx : ByteArray} {a b : Ex} {t : Int} (ha : sortX k a = (t, 0)) (hb : sortX k b = (t, 0)) (ht : t = 1 ∨ t = 2) (hop : op = 7 ∨ op = 8 ∨ op = 9 ∨ op = 10) {r : Bool} (hr : cmpE v op a b = r) (A : Option Addr) (d c : Nat) (w : World) (hA : XA w d A [a, b]) (hc : 2 ≤ c) (hm : c ≤ maxLen) :
    Calls Try.prog 45 #[.agg #[.int .i64 op, .int .i64 num, .string tx, .slice A 2 c], .agg #[.int .i64 v.a0, .int .i64 v.a1, .int .i64 v.a2, .int .i64 v.a3, .int .i64 v.a4, .int .i64 v.a5, .string v.zn, .string v.bn, .bool v.fm]] w fun e w' => e = .returned (.bool r) ∧ Below w.heap.size w w' := by
  obtain ⟨b0, off, o1, n1, t1, us1, A1, m1, c1, o2, n2, t2, us2, A2, m2, c2, rfl, hbl, rfl, rfl, hm1, hm2, he1, he2, ⟨u1, u2, u3, X1⟩, ⟨v1, v2, v3, X2⟩⟩ := hA.pair
  have hst := HSt.new w v #[.int .i64 op, .int .i64 num, .string tx, .slice (some ⟨b0, off, none⟩) 2 c]
  obtain ⟨k0, k1, k2, k3⟩ := four hst.2.2.1
  obtain ⟨d0, d1, d2, d3, d4, d5, d6, d7, d8⟩ := nine hst.2.2.2
  have HS := Lib.hid hst
  have HE := Lib.hid he1
  have HF := Lib.hid he2
  have HL := Lib.hid hbl
  obtain ⟨-, l0, l1, l2, l3, -⟩ := hst.cells HE.out hbl
  have HIS := Lib.hid (fun W (h : HSt w w.heap.size v #[.int .i64 op, .int .i64 num, .string tx, .slice (some ⟨b0, off, none⟩) 2 c] W) => refIs (ev_mono hk ha) A1 (d - 1) m1 c1 W (X1.below h.1) hm1 u1 u2 u3)
  clear hst he1 he2
  rcases ht with rfl | rfl
  · obtain ⟨x, p, hva⟩ := OV.ex (numV v (.mk o1 n1 t1 us1))
    obtain ⟨y, q, hvb⟩ := OV.ex (numV v (.mk o2 n2 t2 us2))
    have HCA := Lib.hid (fun W (h : HSt w w.heap.size v #[.int .i64 op, .int .i64 num, .string tx, .slice (some ⟨b0, off, none⟩) 2 c] W) => refNumber_any v k o1 n1 t1 us1 A1 (d - 1) m1 c1 W x p ha (X1.below h.1) hm1 u1 u2 u3 hva)
    have HCB := Lib.hid (fun W (h : HSt w w.heap.size v #[.int .i64 op, .int .i64 num, .string tx, .slice (some ⟨b0, off, none⟩) 2 c] W) => refNumber_any v k o2 n2 t2 us2 A2 (d - 1) m2 c2 W y q hb (X2.below h.1) hm2 v1 v2 v3 hvb)
    have hcv : cmpO op (numV v (.mk o1 n1 t1 us1)) (numV v (.mk o2 n2 t2 us2)) = r := by
      have hf : isTx (.mk o1 n1 t1 us1) = false := by rw [isTx_sort ha]; rfl
      unfold cmpE at hr
      rwa [if_neg (by rw [hf]; decide)] at hr
    clear ha hb hr hA X1 X2 hm1 hm2 u1 u2 u3 v1 v2 v3 hbl hk
    cases hpq : (p && q)
    · have hno : r = false := by
        rw [← hcv]
        cases p
        · rw [hva.no.1]; rfl
        · cases q
          · rw [hvb.no.1]; cases numV v (.mk o1 n1 t1 us1) <;> rfl
          · cases hpq
      subst hno
      clear hva hvb hcv
      cases p <;> cases q
      case true.true => exact absurd hpq (by decide)
      all_goals
        clear hpq
        go_enter Try.func45, Try.ntmps45
        go_wp2_with (go_at_call 26; (with_reducible refine (HIS.out _ HS.out).mono ?_); rintro e w1 ⟨rfl, hb1⟩; have HS0 := Lib.hid (HS.out.keep hb1); clear hb1 k0 k1 k2 k3 d0 d1 d2 d3 d4 d5 d6 d7 d8 l0 l1 l2 l3)
        obtain ⟨k0, k1, k2, k3⟩ := four HS0.out.2.2.1
        obtain ⟨d0, d1, d2, d3, d4, d5, d6, d7, d8⟩ := nine HS0.out.2.2.2
        obtain ⟨-, l0, l1, l2, l3, l4, l5, l6, l7, -⟩ := HS0.out.cells2 HE.out HF.out HL.out
        have g0 := fun d os => cell_regrown k3 d os
        have g1 := fun d os => cell_regrown l0 d os
        have g2 := fun d os => cell_regrown l1 d os
        have g3 := fun d os => cell_regrown l2 d os
        have g4 := fun d os => cell_regrown l3 d os
        have g5 := fun d os => cell_regrown d0 d os
        have g6 := fun d os => cell_regrown d1 d os
        have g7 := fun d os => cell_regrown d2 d os
        have g8 := fun d os => cell_regrown d3 d os
        have g9 := fun d os => cell_regrown d4 d os
        have g10 := fun d os => cell_regrown d5 d os
        have g11 := fun d os => cell_regrown d6 d os
        have g12 := fun d os => cell_regrown d7 d os
        have g13 := fun d os => cell_regrown d8 d os
        refine wp_region_quiet_below (by kernel_rfl) (by kernel_rfl) ?_
        iterate 11 (go_big_quiet_step ((with_reducible exact Calls.regrown_of (HCA.out _ (HS0.out.re _ _)))))
        refine wpQuiet_nil ?_
        intro W5 hw'
        have HS1 := Lib.hid (HS0.out.quiet hw')
        clear hw' g0 g1 g2 g3 g4 g5 g6 g7 g8 g9 g10 g11 g12 g13 k0 k1 k2 k3 d0 d1 d2 d3 d4 d5 d6 d7 d8 l0 l1 l2 l3 l4 l5 l6 l7
        go_wp2_with fail
        obtain ⟨k0, k1, k2, k3⟩ := four HS1.out.2.2.1
        obtain ⟨d0, d1, d2, d3, d4, d5, d6, d7, d8⟩ := nine HS1.out.2.2.2
        obtain ⟨-, l4, l5, l6, l7, -⟩ := HS1.out.cells HF.out HL.out
        have g0 := fun d os => cell_regrown k3 d os
        have g1 := fun d os => cell_regrown l4 d os
        have g2 := fun d os => cell_regrown l5 d os
        have g3 := fun d os => cell_regrown l6 d os
        have g4 := fun d os => cell_regrown l7 d os
        have g5 := fun d os => cell_regrown d0 d os
        have g6 := fun d os => cell_regrown d1 d os
        have g7 := fun d os => cell_regrown d2 d os
        have g8 := fun d os => cell_regrown d3 d os
        have g9 := fun d os => cell_regrown d4 d os
        have g10 := fun d os => cell_regrown d5 d os
        have g11 := fun d os => cell_regrown d6 d os
        have g12 := fun d os => cell_regrown d7 d os
        have g13 := fun d os => cell_regrown d8 d os
        refine wp_region_quiet_below (by kernel_rfl) (by kernel_rfl) ?_
        iterate 11 (go_big_quiet_step ((with_reducible exact Calls.regrown_of (HCB.out _ (HS1.out.re _ _)))))
        refine wpQuiet_nil ?_
        intro W6 hw'
        have HS2 := Lib.hid (HS1.out.quiet hw')
        clear hw' g0 g1 g2 g3 g4 g5 g6 g7 g8 g9 g10 g11 g12 g13 k0 k1 k2 k3 d0 d1 d2 d3 d4 d5 d6 d7 d8 l4 l5 l6 l7
        obtain ⟨k0, k1, k2, k3⟩ := four HS2.out.2.2.1
        go_wp2_with fail
        go_ret
        exact ⟨rfl, HS2.out.1⟩
    · obtain ⟨rfl, rfl⟩ : p = true ∧ q = true := by simpa using hpq
      rw [hva.yes, hvb.yes] at hcv
      have hcv : agr op (cmpI x y) = r := hcv
      clear hva hvb hpq
      have hxy : (x < y ∧ cmpI x y = -1) ∨ (¬ x < y ∧ y < x ∧ cmpI x y = 1) ∨ (¬ x < y ∧ ¬ y < x ∧ cmpI x y = 0) := by
        unfold cmpI
        by_cases h1 : x < y
        · left; exact ⟨h1, if_pos h1⟩
        · by_cases h2 : y < x
          · right; left; exact ⟨h1, h2, by rw [if_neg h1, if_pos h2]⟩
          · right; right; exact ⟨h1, h2, by rw [if_neg h1, if_neg h2]⟩
      rcases hxy with ⟨h1, hc1⟩ | ⟨h1, h2, hc1⟩ | ⟨h1, h2, hc1⟩
      · rw [hc1] at hcv
        have HC := Lib.hid (fun W => compared_is hcv hop W)
        have e1 := decide_eq_true h1
        have e2 : decide (y < x) = false := decide_eq_false (by omega)
        clear hcv hop hc1
        go_enter Try.func45, Try.ntmps45
        go_wp2_with (go_at_call 26; (with_reducible refine (HIS.out _ HS.out).mono ?_); rintro e w1 ⟨rfl, hb1⟩; have HS0 := Lib.hid (HS.out.keep hb1); clear hb1 k0 k1 k2 k3 d0 d1 d2 d3 d4 d5 d6 d7 d8 l0 l1 l2 l3)
        obtain ⟨k0, k1, k2, k3⟩ := four HS0.out.2.2.1
        obtain ⟨d0, d1, d2, d3, d4, d5, d6, d7, d8⟩ := nine HS0.out.2.2.2
        obtain ⟨-, l0, l1, l2, l3, l4, l5, l6, l7, -⟩ := HS0.out.cells2 HE.out HF.out HL.out
        have g0 := fun d os => cell_regrown k3 d os
        have g1 := fun d os => cell_regrown l0 d os
        have g2 := fun d os => cell_regrown l1 d os
        have g3 := fun d os => cell_regrown l2 d os
        have g4 := fun d os => cell_regrown l3 d os
        have g5 := fun d os => cell_regrown d0 d os
        have g6 := fun d os => cell_regrown d1 d os
        have g7 := fun d os => cell_regrown d2 d os
        have g8 := fun d os => cell_regrown d3 d os
        have g9 := fun d os => cell_regrown d4 d os
        have g10 := fun d os => cell_regrown d5 d os
        have g11 := fun d os => cell_regrown d6 d os
        have g12 := fun d os => cell_regrown d7 d os
        have g13 := fun d os => cell_regrown d8 d os
        refine wp_region_quiet_below (by kernel_rfl) (by kernel_rfl) ?_
        iterate 11 (go_big_quiet_step ((with_reducible exact Calls.regrown_of (HCA.out _ (HS0.out.re _ _)))))
        refine wpQuiet_nil ?_
        intro W5 hw'
        have HS1 := Lib.hid (HS0.out.quiet hw')
        clear hw' g0 g1 g2 g3 g4 g5 g6 g7 g8 g9 g10 g11 g12 g13 k0 k1 k2 k3 d0 d1 d2 d3 d4 d5 d6 d7 d8 l0 l1 l2 l3 l4 l5 l6 l7
        go_wp2_with fail
        obtain ⟨k0, k1, k2, k3⟩ := four HS1.out.2.2.1
        obtain ⟨d0, d1, d2, d3, d4, d5, d6, d7, d8⟩ := nine HS1.out.2.2.2
        obtain ⟨-, l4, l5, l6, l7, -⟩ := HS1.out.cells HF.out HL.out
        have g0 := fun d os => cell_regrown k3 d os
        have g1 := fun d os => cell_regrown l4 d os
        have g2 := fun d os => cell_regrown l5 d os
        have g3 := fun d os => cell_regrown l6 d os
        have g4 := fun d os => cell_regrown l7 d os
        have g5 := fun d os => cell_regrown d0 d os
        have g6 := fun d os => cell_regrown d1 d os
        have g7 := fun d os => cell_regrown d2 d os
        have g8 := fun d os => cell_regrown d3 d os
        have g9 := fun d os => cell_regrown d4 d os
        have g10 := fun d os => cell_regrown d5 d os
        have g11 := fun d os => cell_regrown d6 d os
        have g12 := fun d os => cell_regrown d7 d os
        have g13 := fun d os => cell_regrown d8 d os
        refine wp_region_quiet_below (by kernel_rfl) (by kernel_rfl) ?_
        iterate 11 (go_big_quiet_step ((with_reducible exact Calls.regrown_of (HCB.out _ (HS1.out.re _ _)))))
        refine wpQuiet_nil ?_
        intro W6 hw'
        have HS2 := Lib.hid (HS1.out.quiet hw')
        clear hw' g0 g1 g2 g3 g4 g5 g6 g7 g8 g9 g10 g11 g12 g13 k0 k1 k2 k3 d0 d1 d2 d3 d4 d5 d6 d7 d8 l4 l5 l6 l7
        obtain ⟨k0, k1, k2, k3⟩ := four HS2.out.2.2.1
        go_wp2_with (go_at_call 57; (with_reducible refine (HC.out _).mono ?_); rintro e w7 ⟨rfl, rfl⟩)
        go_ret
        exact ⟨rfl, HS2.out.1⟩
      · rw [hc1] at hcv
        have HC := Lib.hid (fun W => compared_is hcv hop W)
        have e1 := decide_eq_false h1
        have e2 := decide_eq_true h2
        clear hcv hop hc1
        go_enter Try.func45, Try.ntmps45
        go_wp2_with (go_at_call 26; (with_reducible refine (HIS.out _ HS.out).mono ?_); rintro e w1 ⟨rfl, hb1⟩; have HS0 := Lib.hid (HS.out.keep hb1); clear hb1 k0 k1 k2 k3 d0 d1 d2 d3 d4 d5 d6 d7 d8 l0 l1 l2 l3)
        obtain ⟨k0, k1, k2, k3⟩ := four HS0.out.2.2.1
        obtain ⟨d0, d1, d2, d3, d4, d5, d6, d7, d8⟩ := nine HS0.out.2.2.2
        obtain ⟨-, l0, l1, l2, l3, l4, l5, l6, l7, -⟩ := HS0.out.cells2 HE.out HF.out HL.out
        have g0 := fun d os => cell_regrown k3 d os
        have g1 := fun d os => cell_regrown l0 d os
        have g2 := fun d os => cell_regrown l1 d os
        have g3 := fun d os => cell_regrown l2 d os
        have g4 := fun d os => cell_regrown l3 d os
        have g5 := fun d os => cell_regrown d0 d os
        have g6 := fun d os => cell_regrown d1 d os
        have g7 := fun d os => cell_regrown d2 d os
        have g8 := fun d os => cell_regrown d3 d os
        have g9 := fun d os => cell_regrown d4 d os
        have g10 := fun d os => cell_regrown d5 d os
        have g11 := fun d os => cell_regrown d6 d os
        have g12 := fun d os => cell_regrown d7 d os
        have g13 := fun d os => cell_regrown d8 d os
        refine wp_region_quiet_below (by kernel_rfl) (by kernel_rfl) ?_
        iterate 11 (go_big_quiet_step ((with_reducible exact Calls.regrown_of (HCA.out _ (HS0.out.re _ _)))))
        refine wpQuiet_nil ?_
        intro W5 hw'
        have HS1 := Lib.hid (HS0.out.quiet hw')
        clear hw' g0 g1 g2 g3 g4 g5 g6 g7 g8 g9 g10 g11 g12 g13 k0 k1 k2 k3 d0 d1 d2 d3 d4 d5 d6 d7 d8 l0 l1 l2 l3 l4 l5 l6 l7
        go_wp2_with fail
        obtain ⟨k0, k1, k2, k3⟩ := four HS1.out.2.2.1
        obtain ⟨d0, d1, d2, d3, d4, d5, d6, d7, d8⟩ := nine HS1.out.2.2.2
        obtain ⟨-, l4, l5, l6, l7, -⟩ := HS1.out.cells HF.out HL.out
        have g0 := fun d os => cell_regrown k3 d os
        have g1 := fun d os => cell_regrown l4 d os
        have g2 := fun d os => cell_regrown l5 d os
        have g3 := fun d os => cell_regrown l6 d os
        have g4 := fun d os => cell_regrown l7 d os
        have g5 := fun d os => cell_regrown d0 d os
        have g6 := fun d os => cell_regrown d1 d os
        have g7 := fun d os => cell_regrown d2 d os
        have g8 := fun d os => cell_regrown d3 d os
        have g9 := fun d os => cell_regrown d4 d os
        have g10 := fun d os => cell_regrown d5 d os
        have g11 := fun d os => cell_regrown d6 d os
        have g12 := fun d os => cell_regrown d7 d os
        have g13 := fun d os => cell_regrown d8 d os
        refine wp_region_quiet_below (by kernel_rfl) (by kernel_rfl) ?_
        iterate 11 (go_big_quiet_step ((with_reducible exact Calls.regrown_of (HCB.out _ (HS1.out.re _ _)))))
        refine wpQuiet_nil ?_
        intro W6 hw'
        have HS2 := Lib.hid (HS1.out.quiet hw')
        clear hw' g0 g1 g2 g3 g4 g5 g6 g7 g8 g9 g10 g11 g12 g13 k0 k1 k2 k3 d0 d1 d2 d3 d4 d5 d6 d7 d8 l4 l5 l6 l7
        obtain ⟨k0, k1, k2, k3⟩ := four HS2.out.2.2.1
        go_wp2_with (go_at_call 57; (with_reducible refine (HC.out _).mono ?_); rintro e w7 ⟨rfl, rfl⟩)
        go_ret
        exact ⟨rfl, HS2.out.1⟩
      · rw [hc1] at hcv
        have HC := Lib.hid (fun W => compared_is hcv hop W)
        have e1 := decide_eq_false h1
        have e2 := decide_eq_false h2
        clear hcv hop hc1
        go_enter Try.func45, Try.ntmps45
        go_wp2_with (go_at_call 26; (with_reducible refine (HIS.out _ HS.out).mono ?_); rintro e w1 ⟨rfl, hb1⟩; have HS0 := Lib.hid (HS.out.keep hb1); clear hb1 k0 k1 k2 k3 d0 d1 d2 d3 d4 d5 d6 d7 d8 l0 l1 l2 l3)
        obtain ⟨k0, k1, k2, k3⟩ := four HS0.out.2.2.1
        obtain ⟨d0, d1, d2, d3, d4, d5, d6, d7, d8⟩ := nine HS0.out.2.2.2
        obtain ⟨-, l0, l1, l2, l3, l4, l5, l6, l7, -⟩ := HS0.out.cells2 HE.out HF.out HL.out
        have g0 := fun d os => cell_regrown k3 d os
        have g1 := fun d os => cell_regrown l0 d os
        have g2 := fun d os => cell_regrown l1 d os
        have g3 := fun d os => cell_regrown l2 d os
        have g4 := fun d os => cell_regrown l3 d os
        have g5 := fun d os => cell_regrown d0 d os
        have g6 := fun d os => cell_regrown d1 d os
        have g7 := fun d os => cell_regrown d2 d os
        have g8 := fun d os => cell_regrown d3 d os
        have g9 := fun d os => cell_regrown d4 d os
        have g10 := fun d os => cell_regrown d5 d os
        have g11 := fun d os => cell_regrown d6 d os
        have g12 := fun d os => cell_regrown d7 d os
        have g13 := fun d os => cell_regrown d8 d os
        refine wp_region_quiet_below (by kernel_rfl) (by kernel_rfl) ?_
        iterate 11 (go_big_quiet_step ((with_reducible exact Calls.regrown_of (HCA.out _ (HS0.out.re _ _)))))
        refine wpQuiet_nil ?_
        intro W5 hw'
        have HS1 := Lib.hid (HS0.out.quiet hw')
        clear hw' g0 g1 g2 g3 g4 g5 g6 g7 g8 g9 g10 g11 g12 g13 k0 k1 k2 k3 d0 d1 d2 d3 d4 d5 d6 d7 d8 l0 l1 l2 l3 l4 l5 l6 l7
        go_wp2_with fail
        obtain ⟨k0, k1, k2, k3⟩ := four HS1.out.2.2.1
        obtain ⟨d0, d1, d2, d3, d4, d5, d6, d7, d8⟩ := nine HS1.out.2.2.2
        obtain ⟨-, l4, l5, l6, l7, -⟩ := HS1.out.cells HF.out HL.out
        have g0 := fun d os => cell_regrown k3 d os
        have g1 := fun d os => cell_regrown l4 d os
        have g2 := fun d os => cell_regrown l5 d os
        have g3 := fun d os => cell_regrown l6 d os
        have g4 := fun d os => cell_regrown l7 d os
        have g5 := fun d os => cell_regrown d0 d os
        have g6 := fun d os => cell_regrown d1 d os
        have g7 := fun d os => cell_regrown d2 d os
        have g8 := fun d os => cell_regrown d3 d os
        have g9 := fun d os => cell_regrown d4 d os
        have g10 := fun d os => cell_regrown d5 d os
        have g11 := fun d os => cell_regrown d6 d os
        have g12 := fun d os => cell_regrown d7 d os
        have g13 := fun d os => cell_regrown d8 d os
        refine wp_region_quiet_below (by kernel_rfl) (by kernel_rfl) ?_
        iterate 11 (go_big_quiet_step ((with_reducible exact Calls.regrown_of (HCB.out _ (HS1.out.re _ _)))))
        refine wpQuiet_nil ?_
        intro W6 hw'
        have HS2 := Lib.hid (HS1.out.quiet hw')
        clear hw' g0 g1 g2 g3 g4 g5 g6 g7 g8 g9 g10 g11 g12 g13 k0 k1 k2 k3 d0 d1 d2 d3 d4 d5 d6 d7 d8 l4 l5 l6 l7
        obtain ⟨k0, k1, k2, k3⟩ := four HS2.out.2.2.1
        go_wp2_with (go_at_call 57; (with_reducible refine (HC.out _).mono ?_); rintro e w7 ⟨rfl, rfl⟩)
        go_ret
        exact ⟨rfl, HS2.out.1⟩
  · obtain ⟨s1, hs1⟩ : ∃ s, txtV v (.mk o1 n1 t1 us1) = s := ⟨_, rfl⟩
    obtain ⟨s2, hs2⟩ : ∃ s, txtV v (.mk o2 n2 t2 us2) = s := ⟨_, rfl⟩
    have HT1 := Lib.hid (fun W => refText_is hs1 A1 m1 c1 W)
    have HT2 := Lib.hid (fun W => refText_is hs2 A2 m2 c2 W)
    have hcv : agr op (cmpT s1 s2) = r := by
      have hf : isTx (.mk o1 n1 t1 us1) = true := by rw [isTx_sort ha]; rfl
      unfold cmpE at hr
      rwa [if_pos hf, hs1, hs2] at hr
    clear ha hb hr hA X1 X2 hm1 hm2 u1 u2 u3 v1 v2 v3 hbl hk hs1 hs2
    cases hq : (s1.toList == s2.toList)
    · have hz : cmpT s1 s2 = 1 := by unfold cmpT; rw [if_neg (by simpa using hq)]
      rw [hz] at hcv
      have HC := Lib.hid (fun W => compared_is hcv hop W)
      clear hz hcv hop
      go_enter Try.func45, Try.ntmps45
      go_wp2_with (go_at_call 26; (with_reducible refine (HIS.out _ HS.out).mono ?_); rintro e w1 ⟨rfl, hb1⟩; have HS0 := Lib.hid (HS.out.keep hb1); clear hb1 k0 k1 k2 k3 d0 d1 d2 d3 d4 d5 d6 d7 d8 l0 l1 l2 l3)
      obtain ⟨k0, k1, k2, k3⟩ := four HS0.out.2.2.1
      obtain ⟨d0, d1, d2, d3, d4, d5, d6, d7, d8⟩ := nine HS0.out.2.2.2
      obtain ⟨-, l0, l1, l2, l3, l4, l5, l6, l7, -⟩ := HS0.out.cells2 HE.out HF.out HL.out
      have g0 := fun d os => cell_regrown k3 d os
      have g1 := fun d os => cell_regrown l0 d os
      have g2 := fun d os => cell_regrown l1 d os
      have g3 := fun d os => cell_regrown l2 d os
      have g4 := fun d os => cell_regrown l3 d os
      have g5 := fun d os => cell_regrown l4 d os
      have g6 := fun d os => cell_regrown l5 d os
      have g7 := fun d os => cell_regrown l6 d os
      have g8 := fun d os => cell_regrown l7 d os
      have g9 := fun d os => cell_regrown d0 d os
      have g10 := fun d os => cell_regrown d1 d os
      have g11 := fun d os => cell_regrown d2 d os
      have g12 := fun d os => cell_regrown d3 d os
      have g13 := fun d os => cell_regrown d4 d os
      have g14 := fun d os => cell_regrown d5 d os
      have g15 := fun d os => cell_regrown d6 d os
      have g16 := fun d os => cell_regrown d7 d os
      have g17 := fun d os => cell_regrown d8 d os
      refine wp_region_quiet_below (by kernel_rfl) (by kernel_rfl) ?_
      iterate 13 (go_big_quiet_step (first | (with_reducible exact Calls.regrown_of (HT1.out _)) | (with_reducible exact Calls.regrown_of (HT2.out _))))
      refine wpQuiet_nil ?_
      intro W5 hw'
      have HS2 := Lib.hid (HS0.out.quiet hw')
      clear hw' g0 g1 g2 g3 g4 g5 g6 g7 g8 g9 g10 g11 g12 g13 g14 g15 g16 g17 k0 k1 k2 k3 d0 d1 d2 d3 d4 d5 d6 d7 d8 l0 l1 l2 l3 l4 l5 l6 l7
      obtain ⟨k0, k1, k2, k3⟩ := four HS2.out.2.2.1
      go_wp2_with (go_at_call 57; (with_reducible refine (HC.out _).mono ?_); rintro e w7 ⟨rfl, rfl⟩)
      go_ret
      exact ⟨rfl, HS2.out.1⟩
    · have hz : cmpT s1 s2 = 0 := by unfold cmpT; rw [if_pos (by simpa using hq)]
      rw [hz] at hcv
      have HC := Lib.hid (fun W => compared_is hcv hop W)
      clear hz hcv hop
      go_enter Try.func45, Try.ntmps45
      go_wp2_with (go_at_call 26; (with_reducible refine (HIS.out _ HS.out).mono ?_); rintro e w1 ⟨rfl, hb1⟩; have HS0 := Lib.hid (HS.out.keep hb1); clear hb1 k0 k1 k2 k3 d0 d1 d2 d3 d4 d5 d6 d7 d8 l0 l1 l2 l3)
      obtain ⟨k0, k1, k2, k3⟩ := four HS0.out.2.2.1
      obtain ⟨d0, d1, d2, d3, d4, d5, d6, d7, d8⟩ := nine HS0.out.2.2.2
      obtain ⟨-, l0, l1, l2, l3, l4, l5, l6, l7, -⟩ := HS0.out.cells2 HE.out HF.out HL.out
      have g0 := fun d os => cell_regrown k3 d os
      have g1 := fun d os => cell_regrown l0 d os
      have g2 := fun d os => cell_regrown l1 d os
      have g3 := fun d os => cell_regrown l2 d os
      have g4 := fun d os => cell_regrown l3 d os
      have g5 := fun d os => cell_regrown l4 d os
      have g6 := fun d os => cell_regrown l5 d os
      have g7 := fun d os => cell_regrown l6 d os
      have g8 := fun d os => cell_regrown l7 d os
      have g9 := fun d os => cell_regrown d0 d os
      have g10 := fun d os => cell_regrown d1 d os
      have g11 := fun d os => cell_regrown d2 d os
      have g12 := fun d os => cell_regrown d3 d os
      have g13 := fun d os => cell_regrown d4 d os
      have g14 := fun d os => cell_regrown d5 d os
      have g15 := fun d os => cell_regrown d6 d os
      have g16 := fun d os => cell_regrown d7 d os
      have g17 := fun d os => cell_regrown d8 d os
      refine wp_region_quiet_below (by kernel_rfl) (by kernel_rfl) ?_
      iterate 13 (go_big_quiet_step (first | (with_reducible exact Calls.regrown_of (HT1.out _)) | (with_reducible exact Calls.regrown_of (HT2.out _))))
      refine wpQuiet_nil ?_
      intro W5 hw'
      have HS2 := Lib.hid (HS0.out.quiet hw')
      clear hw' g0 g1 g2 g3 g4 g5 g6 g7 g8 g9 g10 g11 g12 g13 g14 g15 g16 g17 k0 k1 k2 k3 d0 d1 d2 d3 d4 d5 d6 d7 d8 l0 l1 l2 l3 l4 l5 l6 l7
      obtain ⟨k0, k1, k2, k3⟩ := four HS2.out.2.2.1
      go_wp2_with (go_at_call 57; (with_reducible refine (HC.out _).mono ?_); rintro e w7 ⟨rfl, rfl⟩)
      go_ret
      exact ⟨rfl, HS2.out.1⟩
end Go.Proofs.Ytklpaonhmmfioaa.Ck
