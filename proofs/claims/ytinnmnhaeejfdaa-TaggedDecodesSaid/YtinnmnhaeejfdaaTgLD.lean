/- Walk: the law on bytes that are decoded. -/
import Derived.Test.YtinnmnhaeejfdaaTgRFin
import Derived.Test.YtinnmnhaeejfdaaTgAwk
import Derived.Test.YtinnmnhaeejfdaaTgLN
namespace Go.Proofs.Ytinnmnhaeejfdaa
open Go.RowKit

theorem guardRec : Try.prog.eqGuardType Try.prog.depth 34 = false := by kernel_rfl
set_option maxHeartbeats 1000000 in
theorem eqRec_same (r : Rc) (w : World) : (binOp .eql 34 (.agg r.cells) (.agg r.cells)).run Try.prog w = .ok (.bool true) w := by
  have u3 := Try.underlying3
  have a3 := Try.isAgg3
  have z3 := Try.sizeOf3
  have u4 := Try.underlying4
  have a4 := Try.isAgg4
  have z4 := Try.sizeOf4
  have u9 := Try.underlying9
  have a9 := Try.isAgg9
  have z9 := Try.sizeOf9
  have hS : Try.prog.underlying 34 = some (.struct (Try.prog.fieldsOf 34)) := by kernel_rfl
  have hp : Try.prog.stoodInHeld 34 = false := by kernel_rfl
  unfold Rc.cells
  rw [run_eql_struct, show (10000 : Nat) = 9999 + 1 from rfl, run_equalIn_agg w 9999 34 _ _ hS hp]
  simp only [Program.fieldsOf, Try.underlying34]
  go_simp
set_option maxRecDepth 100000 in
set_option maxHeartbeats 8000000 in
theorem walkTaggedDecodes (A : Option Addr) (m c : Nat) (zs : List Int) (w : World) (hr : IsRow .u8 w A m c zs) :
    Calls Try.prog 6 #[.slice A m c] w fun e w' => e = .returned (.bool true) ∧ Below w.heap.size w w' := by
  have HAL := Lib.hid alive_any
  have hA := byt_of_row hr
  by_cases h500 : m ≤ 500
  · have d1 : decide (500 < (m : Int)) = false := decide_eq_false (by omega)
    obtain ⟨l, hl⟩ : ∃ l, zs.take m = l := ⟨_, rfl⟩
    rw [hl] at hA
    have HD1 := Lib.hid (decode_any hA (by omega))
    have HD2 := Lib.hid (fun W (h : Below w.heap.size w W) => refDecode_any (hA.below h) (by omega))
    unfold DecP at HD1 HD2
    obtain ⟨⟨r, x⟩, hrx⟩ : ∃ p, decR l = p := ⟨_, rfl⟩
    rw [hrx] at HD1 HD2
    obtain ⟨s0, s1, s2, sa, sb, s5, s6, s7, s8, b9, s10, b11⟩ := r
    simp only [Rc.cells] at HD1 HD2
    have nq := eqRec_same ⟨s0, s1, s2, sa, sb, s5, s6, s7, s8, b9, s10, b11⟩
    simp only [Rc.cells] at nq
    have gq := guardRec
    clear hr hA hrx hl
    go_enter Try.func6, Try.ntmps6
    go_wp2_with (first
      | (go_at_call 19; (with_reducible refine HD1.out.mono ?_); rintro e w1 ⟨rfl, hb⟩; have HB1 := Lib.hid (hb.alloc hb.size (.cells #[.int .i64 s0, .int .i64 s1, .int .i64 s2, .string sa, .string sb, .int .i64 s5, .int .i64 s6, .int .i64 s7, .int .i64 s8, .bool b9, .int .i64 s10, .bool b11] 34)); have HR1 : Hid (RcB (w1.alloc (.cells #[.int .i64 s0, .int .i64 s1, .int .i64 s2, .string sa, .string sb, .int .i64 s5, .int .i64 s6, .int .i64 s7, .int .i64 s8, .bool b9, .int .i64 s10, .bool b11] 34)) w1.heap.size ⟨s0, s1, s2, sa, sb, s5, s6, s7, s8, b9, s10, b11⟩) := Lib.hid (heap_alloc_new w1 _); clear hb)
      | (go_at_call 20; (with_reducible refine (HD2.out _ HB1.out).mono ?_); rintro e w2 ⟨rfl, hb⟩; have HB2 := Lib.hid ((HB1.out.trans (hb.mono HB1.out.size)).alloc (Nat.le_trans HB1.out.size hb.size) (.cells #[.int .i64 s0, .int .i64 s1, .int .i64 s2, .string sa, .string sb, .int .i64 s5, .int .i64 s6, .int .i64 s7, .int .i64 s8, .bool b9, .int .i64 s10, .bool b11] 34)); have HR2 : Hid (RcB (w2.alloc (.cells #[.int .i64 s0, .int .i64 s1, .int .i64 s2, .string sa, .string sb, .int .i64 s5, .int .i64 s6, .int .i64 s7, .int .i64 s8, .bool b9, .int .i64 s10, .bool b11] 34)) w2.heap.size ⟨s0, s1, s2, sa, sb, s5, s6, s7, s8, b9, s10, b11⟩) := Lib.hid (heap_alloc_new w2 _); have HR1' := Lib.hid ((HR1.out.below hb (heap_lt HR1.out)).below (below_lit w2 (.cells #[.int .i64 s0, .int .i64 s1, .int .i64 s2, .string sa, .string sb, .int .i64 s5, .int .i64 s6, .int .i64 s7, .int .i64 s8, .bool b9, .int .i64 s10, .bool b11] 34)) (heap_lt (HR1.out.below hb (heap_lt HR1.out)))); obtain ⟨k0, k1, k2, k3, k4, k5, k6, k7, k8, k9, k10, k11⟩ := HR2.out.cells; simp only at k0 k1 k2 k3 k4 k5 k6 k7 k8 k9 k10 k11; obtain ⟨c0, c1, c2, c3, c4, c5, c6, c7, c8, c9, c10, c11⟩ := HR1'.out.cells; simp only at c0 c1 c2 c3 c4 c5 c6 c7 c8 c9 c10 c11; clear hb)
      | (go_at_call 10; (with_reducible refine (HAL.out _).mono ?_); rintro e w3 ⟨rfl, hb⟩; have HB3 := Lib.hid (HB2.out.trans (hb.mono HB2.out.size)); clear hb))
    go_ret
    exact ⟨rfl, HB3.out⟩
  · have d1 : decide (500 < (m : Int)) = true := decide_eq_true (by omega)
    clear hr hA
    go_enter Try.func6, Try.ntmps6
    go_wp2_with (go_at_call 10; (with_reducible refine (HAL.out _).mono ?_); rintro e w5 ⟨rfl, hb5⟩)
    go_ret
    exact ⟨rfl, hb5⟩
end Go.Proofs.Ytinnmnhaeejfdaa
