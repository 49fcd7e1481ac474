/- Walks of the laws on the values of expressions. -/
import Derived.Test.YtklpaonhmmfioaaEvB
namespace Go.Proofs.Ytklpaonhmmfioaa
open Go.RowKit Ck Go.Lib

set_option maxRecDepth 100000 in
set_option maxHeartbeats 16000000 in
theorem walkEvalNumbers (op num : Int) (tx : ByteArray) (args : List Ex) (A : Option Addr) (d n c : Nat) (v : En) (w : World) (hA : XA w d A args) (hn : args.length = n) (hc : n ≤ c) (hm : c ≤ maxLen) (ht : tx.size ≤ maxLen) :
    Calls Try.prog 3 #[.agg #[.int .i64 op, .int .i64 num, .string tx, .slice A n c], .agg #[.int .i64 v.a0, .int .i64 v.a1, .int .i64 v.a2, .int .i64 v.a3, .int .i64 v.a4, .int .i64 v.a5, .string v.zn, .string v.bn, .bool v.fm]] w fun e w' => e = .returned (.bool true) ∧ Below w.heap.size w w' := by
  have hst := HSt.new w v #[.int .i64 op, .int .i64 num, .string tx, .slice A n c]
  obtain ⟨k0, k1, k2, k3⟩ := four hst.2.2.1
  obtain ⟨d0, d1, d2, d3, d4, d5, d6, d7, d8⟩ := nine hst.2.2.2
  have HS := Lib.hid hst
  clear hst
  obtain ⟨q, hq⟩ : ∃ q, sml (.mk op num tx args) = q := ⟨_, rfl⟩
  have HSM := Lib.hid (fun W (h : HSt w w.heap.size v #[.int .i64 op, .int .i64 num, .string tx, .slice A n c] W) => evSmall_is hq A d n c W (hA.below h.1) hn hc hm ht)
  obtain ⟨x, b, hv⟩ := OV.ex (numR v (.mk op num tx args))
  have HP := Lib.hid (fun W (h : HSt w w.heap.size v #[.int .i64 op, .int .i64 num, .string tx, .slice A n c] W) => evNumber_is hv A d n c W (hA.below h.1) hn hc hm ht)
  have HR := Lib.hid (fun W (h : HSt w w.heap.size v #[.int .i64 op, .int .i64 num, .string tx, .slice A n c] W) => refNumberT_is hv A d n c W (hA.below h.1) hn hc hm ht)
  have HAW := Lib.hid (fun W => awake_any W)
  clear hA hn hq
  cases q
  · go_enter Try.func3, Try.ntmps3
    go_wp2_with (first
      | (go_at_call 10; (with_reducible refine (HSM.out _ HS.out).mono ?_); rintro e w1 ⟨rfl, hb1⟩; have HS1 := Lib.hid (HS.out.keep hb1); clear hb1 k0 k1 k2 k3 d0 d1 d2 d3 d4 d5 d6 d7 d8)
      | (go_at_call 11; (with_reducible refine (HAW.out _).mono ?_); rintro e w2 ⟨rfl, hb2⟩; have HS2 := Lib.hid (HS1.out.keep hb2); clear hb2))
    go_ret
    exact ⟨rfl, HS2.out.1⟩
  · go_enter Try.func3, Try.ntmps3
    go_wp2_with (first
      | (go_at_call 10; (with_reducible refine (HSM.out _ HS.out).mono ?_); rintro e w1 ⟨rfl, hb1⟩; have HS1 := Lib.hid (HS.out.keep hb1); clear hb1 k0 k1 k2 k3 d0 d1 d2 d3 d4 d5 d6 d7 d8; obtain ⟨k0, k1, k2, k3⟩ := four HS1.out.2.2.1; obtain ⟨d0, d1, d2, d3, d4, d5, d6, d7, d8⟩ := nine HS1.out.2.2.2)
      | (go_at_call 12; (with_reducible refine (HP.out _ HS1.out).mono ?_); rintro e w2 ⟨rfl, hb2⟩; replace HS1 := Lib.hid (HS1.out.keep hb2); clear hb2 k0 k1 k2 k3 d0 d1 d2 d3 d4 d5 d6 d7 d8; obtain ⟨k0, k1, k2, k3⟩ := four HS1.out.2.2.1; obtain ⟨d0, d1, d2, d3, d4, d5, d6, d7, d8⟩ := nine HS1.out.2.2.2)
      | (go_at_call 13; (with_reducible refine (HR.out _ HS1.out).mono ?_); rintro e w3 ⟨rfl, hb3⟩; replace HS1 := Lib.hid (HS1.out.keep hb3); clear hb3 k0 k1 k2 k3 d0 d1 d2 d3 d4 d5 d6 d7 d8)
      | (go_at_call 11; (with_reducible refine (HAW.out _).mono ?_); rintro e w4 ⟨rfl, hb4⟩; have HS2 := Lib.hid (HS1.out.keep hb4); clear hb4))
    go_ret
    exact ⟨by simp, HS2.out.1⟩
set_option maxRecDepth 100000 in
set_option maxHeartbeats 16000000 in
theorem walkEvalTexts (op num : Int) (tx : ByteArray) (args : List Ex) (A : Option Addr) (d n c : Nat) (v : En) (w : World) (hA : XA w d A args) (hn : args.length = n) (hc : n ≤ c) (hm : c ≤ maxLen) (ht : tx.size ≤ maxLen) :
    Calls Try.prog 4 #[.agg #[.int .i64 op, .int .i64 num, .string tx, .slice A n c], .agg #[.int .i64 v.a0, .int .i64 v.a1, .int .i64 v.a2, .int .i64 v.a3, .int .i64 v.a4, .int .i64 v.a5, .string v.zn, .string v.bn, .bool v.fm]] w fun e w' => e = .returned (.bool true) ∧ Below w.heap.size w w' := by
  have hst := HSt.new w v #[.int .i64 op, .int .i64 num, .string tx, .slice A n c]
  obtain ⟨k0, k1, k2, k3⟩ := four hst.2.2.1
  obtain ⟨d0, d1, d2, d3, d4, d5, d6, d7, d8⟩ := nine hst.2.2.2
  have HS := Lib.hid hst
  clear hst
  obtain ⟨q, hq⟩ : ∃ q, sml (.mk op num tx args) = q := ⟨_, rfl⟩
  have HSM := Lib.hid (fun W (h : HSt w w.heap.size v #[.int .i64 op, .int .i64 num, .string tx, .slice A n c] W) => evSmall_is hq A d n c W (hA.below h.1) hn hc hm ht)
  obtain ⟨xb, hv⟩ : ∃ z, txtR v (.mk op num tx args) = z := ⟨_, rfl⟩
  obtain ⟨x, b⟩ := xb
  have HP := Lib.hid (fun W (h : HSt w w.heap.size v #[.int .i64 op, .int .i64 num, .string tx, .slice A n c] W) => evText_is hv A d n c W (hA.below h.1) hn hc hm ht)
  have HR := Lib.hid (fun W (h : HSt w w.heap.size v #[.int .i64 op, .int .i64 num, .string tx, .slice A n c] W) => refTextT_is hv A d n c W (hA.below h.1) hn hc hm ht)
  have HAW := Lib.hid (fun W => awake_any W)
  clear hA hn hq
  cases q
  · go_enter Try.func4, Try.ntmps4
    go_wp2_with (first
      | (go_at_call 10; (with_reducible refine (HSM.out _ HS.out).mono ?_); rintro e w1 ⟨rfl, hb1⟩; have HS1 := Lib.hid (HS.out.keep hb1); clear hb1 k0 k1 k2 k3 d0 d1 d2 d3 d4 d5 d6 d7 d8)
      | (go_at_call 11; (with_reducible refine (HAW.out _).mono ?_); rintro e w2 ⟨rfl, hb2⟩; have HS2 := Lib.hid (HS1.out.keep hb2); clear hb2))
    go_ret
    exact ⟨rfl, HS2.out.1⟩
  · go_enter Try.func4, Try.ntmps4
    go_wp2_with (first
      | (go_at_call 10; (with_reducible refine (HSM.out _ HS.out).mono ?_); rintro e w1 ⟨rfl, hb1⟩; have HS1 := Lib.hid (HS.out.keep hb1); clear hb1 k0 k1 k2 k3 d0 d1 d2 d3 d4 d5 d6 d7 d8; obtain ⟨k0, k1, k2, k3⟩ := four HS1.out.2.2.1; obtain ⟨d0, d1, d2, d3, d4, d5, d6, d7, d8⟩ := nine HS1.out.2.2.2)
      | (go_at_call 14; (with_reducible refine (HP.out _ HS1.out).mono ?_); rintro e w2 ⟨rfl, hb2⟩; replace HS1 := Lib.hid (HS1.out.keep hb2); clear hb2 k0 k1 k2 k3 d0 d1 d2 d3 d4 d5 d6 d7 d8; obtain ⟨k0, k1, k2, k3⟩ := four HS1.out.2.2.1; obtain ⟨d0, d1, d2, d3, d4, d5, d6, d7, d8⟩ := nine HS1.out.2.2.2)
      | (go_at_call 15; (with_reducible refine (HR.out _ HS1.out).mono ?_); rintro e w3 ⟨rfl, hb3⟩; replace HS1 := Lib.hid (HS1.out.keep hb3); clear hb3 k0 k1 k2 k3 d0 d1 d2 d3 d4 d5 d6 d7 d8)
      | (go_at_call 11; (with_reducible refine (HAW.out _).mono ?_); rintro e w4 ⟨rfl, hb4⟩; have HS2 := Lib.hid (HS1.out.keep hb4); clear hb4))
    go_ret
    exact ⟨by simp, HS2.out.1⟩
set_option maxRecDepth 100000 in
set_option maxHeartbeats 16000000 in
theorem walkEvalHolds (op num : Int) (tx : ByteArray) (args : List Ex) (A : Option Addr) (d n c : Nat) (v : En) (w : World) (hA : XA w d A args) (hn : args.length = n) (hc : n ≤ c) (hm : c ≤ maxLen) (ht : tx.size ≤ maxLen) :
    Calls Try.prog 5 #[.agg #[.int .i64 op, .int .i64 num, .string tx, .slice A n c], .agg #[.int .i64 v.a0, .int .i64 v.a1, .int .i64 v.a2, .int .i64 v.a3, .int .i64 v.a4, .int .i64 v.a5, .string v.zn, .string v.bn, .bool v.fm]] w fun e w' => e = .returned (.bool true) ∧ Below w.heap.size w w' := by
  have hst := HSt.new w v #[.int .i64 op, .int .i64 num, .string tx, .slice A n c]
  obtain ⟨k0, k1, k2, k3⟩ := four hst.2.2.1
  obtain ⟨d0, d1, d2, d3, d4, d5, d6, d7, d8⟩ := nine hst.2.2.2
  have HS := Lib.hid hst
  clear hst
  obtain ⟨q, hq⟩ : ∃ q, sml (.mk op num tx args) = q := ⟨_, rfl⟩
  have HSM := Lib.hid (fun W (h : HSt w w.heap.size v #[.int .i64 op, .int .i64 num, .string tx, .slice A n c] W) => evSmall_is hq A d n c W (hA.below h.1) hn hc hm ht)
  obtain ⟨b, hv⟩ : ∃ z, hldR v (.mk op num tx args) = z := ⟨_, rfl⟩
  have HP := Lib.hid (fun W (h : HSt w w.heap.size v #[.int .i64 op, .int .i64 num, .string tx, .slice A n c] W) => evHolds_is hv A d n c W (hA.below h.1) hn hc hm ht)
  have HR := Lib.hid (fun W (h : HSt w w.heap.size v #[.int .i64 op, .int .i64 num, .string tx, .slice A n c] W) => refHoldsT_is hv A d n c W (hA.below h.1) hn hc hm ht)
  have HAW := Lib.hid (fun W => awake_any W)
  clear hA hn hq
  cases q
  · go_enter Try.func5, Try.ntmps5
    go_wp2_with (first
      | (go_at_call 10; (with_reducible refine (HSM.out _ HS.out).mono ?_); rintro e w1 ⟨rfl, hb1⟩; have HS1 := Lib.hid (HS.out.keep hb1); clear hb1 k0 k1 k2 k3 d0 d1 d2 d3 d4 d5 d6 d7 d8)
      | (go_at_call 11; (with_reducible refine (HAW.out _).mono ?_); rintro e w2 ⟨rfl, hb2⟩; have HS2 := Lib.hid (HS1.out.keep hb2); clear hb2))
    go_ret
    exact ⟨rfl, HS2.out.1⟩
  · go_enter Try.func5, Try.ntmps5
    go_wp2_with (go_at_call 10; (with_reducible refine (HSM.out _ HS.out).mono ?_); rintro e w1 ⟨rfl, hb1⟩; have HS1 := Lib.hid (HS.out.keep hb1); clear hb1 k0 k1 k2 k3 d0 d1 d2 d3 d4 d5 d6 d7 d8; obtain ⟨k0, k1, k2, k3⟩ := four HS1.out.2.2.1; obtain ⟨d0, d1, d2, d3, d4, d5, d6, d7, d8⟩ := nine HS1.out.2.2.2)
    have g0 := fun d os => cell_regrown k0 d os
    have g1 := fun d os => cell_regrown k1 d os
    have g2 := fun d os => cell_regrown k2 d os
    have g3 := fun d os => cell_regrown k3 d os
    have g4 := fun d os => cell_regrown d0 d os
    have g5 := fun d os => cell_regrown d1 d os
    have g6 := fun d os => cell_regrown d2 d os
    have g7 := fun d os => cell_regrown d3 d os
    have g8 := fun d os => cell_regrown d4 d os
    have g9 := fun d os => cell_regrown d5 d os
    have g10 := fun d os => cell_regrown d6 d os
    have g11 := fun d os => cell_regrown d7 d os
    have g12 := fun d os => cell_regrown d8 d os
    refine wp_region_quiet_below (by kernel_rfl) (by kernel_rfl) ?_
    iterate 11 (go_big_quiet_step (first | (with_reducible exact Calls.regrown_of (HP.out _ (HS1.out.re _ _))) | (with_reducible exact Calls.regrown_of (HR.out _ (HS1.out.re _ _))) | (with_reducible exact Calls.regrown_of (HAW.out _))))
    refine wpQuiet_nil ?_
    intro Wq hw'
    have HS2 := Lib.hid (HS1.out.quiet hw')
    clear hw' g0 g1 g2 g3 g4 g5 g6 g7 g8 g9 g10 g11 g12 k0 k1 k2 k3 d0 d1 d2 d3 d4 d5 d6 d7 d8
    go_wp2_with fail
    go_ret
    exact ⟨by simp, HS2.out.1⟩
end Go.Proofs.Ytklpaonhmmfioaa
