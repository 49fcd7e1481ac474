/- Walk: the chapter's examples. -/
import Derived.Test.YtobkafkknbdacaaDoorBaH
import Derived.Laws.StructEq
namespace Go.Proofs.YtobkafkknbdacaaDoor.Va
open Go.RowKit

def rcV : Rc := ⟨6, 1, 1, ⟨#[49]⟩, ⟨#[50]⟩, 0, 90, 0, 0, false, 0, false⟩
def rcQ : Rc := ⟨0, 0, 2, ⟨#[]⟩, ⟨#[]⟩, 0, 1, 0, 0, false, 0, false⟩
theorem recs_two (w : World) : RecR (w.alloc (.cells #[.int .i64 6, .int .i64 1, .int .i64 1, .string ⟨#[49]⟩, .string ⟨#[50]⟩, .int .i64 0, .int .i64 90, .int .i64 0, .int .i64 0, .bool false, .int .i64 0, .bool false, .int .i64 0, .int .i64 0, .int .i64 2, .string ⟨#[]⟩, .string ⟨#[]⟩, .int .i64 0, .int .i64 1, .int .i64 0, .int .i64 0, .bool false, .int .i64 0, .bool false] 33)) (some ⟨w.heap.size, 0, none⟩) [rcV, rcQ] := by
  intro k hk
  have hb := Blk.new w 33 #[.int .i64 6, .int .i64 1, .int .i64 1, .string ⟨#[49]⟩, .string ⟨#[50]⟩, .int .i64 0, .int .i64 90, .int .i64 0, .int .i64 0, .bool false, .int .i64 0, .bool false, .int .i64 0, .int .i64 0, .int .i64 2, .string ⟨#[]⟩, .string ⟨#[]⟩, .int .i64 0, .int .i64 1, .int .i64 0, .int .i64 0, .bool false, .int .i64 0, .bool false]
  refine ⟨w.heap.size, 0, rfl, by simp, fun i hi => ?_⟩
  have hc : i = 0 ∨ i = 1 ∨ i = 2 ∨ i = 3 ∨ i = 4 ∨ i = 5 ∨ i = 6 ∨ i = 7 ∨ i = 8 ∨ i = 9 ∨ i = 10 ∨ i = 11 := by omega
  have hk2 : k = 0 ∨ k = 1 := by simp at hk; omega
  rw [Nat.zero_add, hb.cell]
  rcases hk2 with rfl | rfl <;> rcases hc with rfl | rfl | rfl | rfl | rfl | rfl | rfl | rfl | rfl | rfl | rfl | rfl <;> rfl
theorem recs_one (w : World) : RecR (w.alloc (.cells #[.int .i64 6, .int .i64 1, .int .i64 1, .string ⟨#[49]⟩, .string ⟨#[50]⟩, .int .i64 0, .int .i64 90, .int .i64 0, .int .i64 0, .bool false, .int .i64 0, .bool false] 33)) (some ⟨w.heap.size, 0, none⟩) [rcV] := by
  intro k hk
  have hb := Blk.new w 33 #[.int .i64 6, .int .i64 1, .int .i64 1, .string ⟨#[49]⟩, .string ⟨#[50]⟩, .int .i64 0, .int .i64 90, .int .i64 0, .int .i64 0, .bool false, .int .i64 0, .bool false]
  refine ⟨w.heap.size, 0, rfl, by simp, fun i hi => ?_⟩
  have hc : i = 0 ∨ i = 1 ∨ i = 2 ∨ i = 3 ∨ i = 4 ∨ i = 5 ∨ i = 6 ∨ i = 7 ∨ i = 8 ∨ i = 9 ∨ i = 10 ∨ i = 11 := by omega
  obtain rfl : k = 0 := by simp at hk; omega
  rw [Nat.zero_add, hb.cell]
  rcases hc with rfl | rfl | rfl | rfl | rfl | rfl | rfl | rfl | rfl | rfl | rfl | rfl <;> rfl
theorem tot_two : totC 2 (tt [rcV, rcQ]) = #[.int .i64 2, .int .i64 0, .int .i64 90, .int .i64 1, .int .i64 0, .int .i64 0] := by simp [totC, tt, t1, okT, rcV, rcQ]
theorem bk_one : bkE 5 1 1 [rcV] = 8 := by decide
theorem guardHead : Tryd.prog.eqGuardType Tryd.prog.depth 41 = false := by kernel_rfl
theorem eqHead_same (a b c d : Int) (w : World) : (binOp .eql 41 (.agg #[.int .i64 a, .int .i64 b, .int .i64 c, .int .i64 d]) (.agg #[.int .i64 a, .int .i64 b, .int .i64 c, .int .i64 d])).run Tryd.prog w = .ok (.bool true) w := by
  have u3 := Tryd.underlying3
  have a3 := Tryd.isAgg3
  have z3 := Tryd.sizeOf3
  have hS : Tryd.prog.underlying 41 = some (.struct (Tryd.prog.fieldsOf 41)) := by kernel_rfl
  have hp : Tryd.prog.stoodInHeld 41 = false := by kernel_rfl
  rw [run_eql_struct, show (10000 : Nat) = 9999 + 1 from rfl, run_equalIn_agg w 9999 41 _ _ hS hp]
  simp only [Program.fieldsOf, Tryd.underlying41]
  go_simp
theorem totals_two (w : World) : Calls Tryd.prog 7 #[.slice (some ⟨w.heap.size, 0, none⟩) 2 2] (w.alloc (.cells #[.int .i64 6, .int .i64 1, .int .i64 1, .string ⟨#[49]⟩, .string ⟨#[50]⟩, .int .i64 0, .int .i64 90, .int .i64 0, .int .i64 0, .bool false, .int .i64 0, .bool false, .int .i64 0, .int .i64 0, .int .i64 2, .string ⟨#[]⟩, .string ⟨#[]⟩, .int .i64 0, .int .i64 1, .int .i64 0, .int .i64 0, .bool false, .int .i64 0, .bool false] 33)) fun e w' => e = .returned (.agg #[.int .i64 2, .int .i64 0, .int .i64 90, .int .i64 1, .int .i64 0, .int .i64 0]) ∧ Below (w.alloc (.cells #[.int .i64 6, .int .i64 1, .int .i64 1, .string ⟨#[49]⟩, .string ⟨#[50]⟩, .int .i64 0, .int .i64 90, .int .i64 0, .int .i64 0, .bool false, .int .i64 0, .bool false, .int .i64 0, .int .i64 0, .int .i64 2, .string ⟨#[]⟩, .string ⟨#[]⟩, .int .i64 0, .int .i64 1, .int .i64 0, .int .i64 0, .bool false, .int .i64 0, .bool false] 33)).heap.size (w.alloc (.cells #[.int .i64 6, .int .i64 1, .int .i64 1, .string ⟨#[49]⟩, .string ⟨#[50]⟩, .int .i64 0, .int .i64 90, .int .i64 0, .int .i64 0, .bool false, .int .i64 0, .bool false, .int .i64 0, .int .i64 0, .int .i64 2, .string ⟨#[]⟩, .string ⟨#[]⟩, .int .i64 0, .int .i64 1, .int .i64 0, .int .i64 0, .bool false, .int .i64 0, .bool false] 33)) w' :=
  tot_two ▸ totals_any (c := 2) (recs_two w) rfl (by decide)
theorem check_five (w : World) (g : Nat) (hg : w.heap.size = g) : Calls Tryd.prog 9 #[.agg #[.int .i64 5, .int .i64 1, .int .i64 1, .slice (some ⟨g, 0, none⟩) 1 1]] (w.alloc (.cells #[.int .i64 6, .int .i64 1, .int .i64 1, .string ⟨#[49]⟩, .string ⟨#[50]⟩, .int .i64 0, .int .i64 90, .int .i64 0, .int .i64 0, .bool false, .int .i64 0, .bool false] 33)) fun e w' => e = .returned (.int .i64 8) ∧ Below (w.alloc (.cells #[.int .i64 6, .int .i64 1, .int .i64 1, .string ⟨#[49]⟩, .string ⟨#[50]⟩, .int .i64 0, .int .i64 90, .int .i64 0, .int .i64 0, .bool false, .int .i64 0, .bool false] 33)).heap.size (w.alloc (.cells #[.int .i64 6, .int .i64 1, .int .i64 1, .string ⟨#[49]⟩, .string ⟨#[50]⟩, .int .i64 0, .int .i64 90, .int .i64 0, .int .i64 0, .bool false, .int .i64 0, .bool false] 33)) w' :=
  bk_one ▸ bchk_any (c := 1) 5 1 1 (hg ▸ recs_one w) rfl (by decide) (fun r hr => by
    obtain rfl : r = rcV := by simpa using hr
    exact ⟨by decide, by decide⟩)
set_option maxRecDepth 100000 in
set_option maxHeartbeats 16000000 in
theorem alive_any (w : World) : Calls Tryd.prog 6 #[] w fun e w' => e = .returned (.bool true) ∧ Below w.heap.size w w' := by
  go_enter Tryd.func6, Tryd.ntmps6
  go_upto_region 2 with fail
  obtain ⟨L, hL⟩ : ∃ L, w.alloc (.cells #[.int .i64 6, .int .i64 1, .int .i64 1, .string ⟨#[49]⟩, .string ⟨#[50]⟩, .int .i64 0, .int .i64 90, .int .i64 0, .int .i64 0, .bool false, .int .i64 0, .bool false] 33) = L := ⟨_, rfl⟩
  rw [hL]
  have hbl : Blk L w.heap.size 33 #[.int .i64 6, .int .i64 1, .int .i64 1, .string ⟨#[49]⟩, .string ⟨#[50]⟩, .int .i64 0, .int .i64 90, .int .i64 0, .int .i64 0, .bool false, .int .i64 0, .bool false] := hL ▸ Blk.new w _ _
  have HB := Lib.hid (show Below w.heap.size w L from hL ▸ below_lit w _)
  have HBL := Lib.hid hbl
  have e0 := hbl.cell 0; have e1 := hbl.cell 1; have e2 := hbl.cell 2; have e3 := hbl.cell 3; have e4 := hbl.cell 4; have e5 := hbl.cell 5; have e6 := hbl.cell 6; have e7 := hbl.cell 7; have e8 := hbl.cell 8; have e9 := hbl.cell 9; have e10 := hbl.cell 10; have e11 := hbl.cell 11
  simp at e0 e1 e2 e3 e4 e5 e6 e7 e8 e9 e10 e11
  have HT2 := Lib.hid (totals_two L)
  have HL2 := Lib.hid (below_lit L (.cells #[.int .i64 6, .int .i64 1, .int .i64 1, .string ⟨#[49]⟩, .string ⟨#[50]⟩, .int .i64 0, .int .i64 90, .int .i64 0, .int .i64 0, .bool false, .int .i64 0, .bool false, .int .i64 0, .int .i64 0, .int .i64 2, .string ⟨#[]⟩, .string ⟨#[]⟩, .int .i64 0, .int .i64 1, .int .i64 0, .int .i64 0, .bool false, .int .i64 0, .bool false] 33))
  have HWN := Lib.hid write_nil
  have HC5 := Lib.hid check_five
  have nq := eqHead_same 1 1 1 0
  have gq := guardHead
  clear hbl hL
  go_wp2_with (first
    | (go_at_call 7; (with_reducible refine HT2.out.mono ?_); rintro e w2 ⟨rfl, hb2⟩; have hB2 := (HL2.out.trans (hb2.mono HL2.out.size)); have HB3 := Lib.hid (hB2.alloc hB2.size (.cells #[.int .i64 2, .int .i64 0, .int .i64 90, .int .i64 1, .int .i64 0, .int .i64 0] 27)); have HG3 : Hid (Blk (w2.alloc (.cells #[.int .i64 2, .int .i64 0, .int .i64 90, .int .i64 1, .int .i64 0, .int .i64 0] 27)) w2.heap.size 27 #[.int .i64 2, .int .i64 0, .int .i64 90, .int .i64 1, .int .i64 0, .int .i64 0]) := Lib.hid (Blk.new w2 _ _); clear hb2 hB2 e0 e1 e2 e3 e4 e5 e6 e7 e8 e9 e10 e11)
    | (go_at_call 11; (with_reducible refine (HWN.out _).mono ?_); rintro e w4 ⟨v4, rfl, ho4, hb4⟩; obtain ⟨A4, m4, c4, rfl, hm4, y4⟩ := ho4.bytm; obtain rfl : m4 = 24 := (by rw [hm4.out]; exact fil_len); have HY4 := Lib.hid y4; have HB4 := Lib.hid (HB3.out.trans (hb4.mono HB3.out.size)); have HG4 := Lib.hid (HG3.out.below hb4 HG3.out.lt); clear ho4 hb4 hm4 y4)
    | (go_at_call 12; (with_reducible refine (headOf_file HY4.out).mono ?_); rintro e w5 ⟨rfl, hb5⟩; have hB5 := (HB4.out.trans (hb5.mono HB4.out.size)).alloc (Nat.le_trans HB4.out.size hb5.size) (.cells #[.int .i64 1, .int .i64 1, .int .i64 1, .int .i64 0] 41); have hg5 := (HG4.out.below hb5 HG4.out.lt).alloc (.cells #[.int .i64 1, .int .i64 1, .int .i64 1, .int .i64 0] 41); have hn5 := Blk.new w5 41 #[.int .i64 1, .int .i64 1, .int .i64 1, .int .i64 0]; have hv5 := HBL.out.below hB5 HBL.out.lt; have n0 := hn5.cell 0; have n1 := hn5.cell 1; have n2 := hn5.cell 2; have n3 := hn5.cell 3; have t0 := hg5.cell 0; have t1 := hg5.cell 1; have t2 := hg5.cell 2; have t3 := hg5.cell 3; have e0 := hv5.cell 0; have e1 := hv5.cell 1; have e2 := hv5.cell 2; have e3 := hv5.cell 3; have e4 := hv5.cell 4; have e5 := hv5.cell 5; have e6 := hv5.cell 6; have e7 := hv5.cell 7; have e8 := hv5.cell 8; have e9 := hv5.cell 9; have e10 := hv5.cell 10; have e11 := hv5.cell 11; simp at n0 n1 n2 n3 t0 t1 t2 t3 e0 e1 e2 e3 e4 e5 e6 e7 e8 e9 e10 e11; have HB5 := Lib.hid hB5; clear hb5 hB5 hg5 hn5 hv5)
    | (go_at_call 9; (with_reducible refine (HC5.out (w5.alloc (.cells #[.int .i64 1, .int .i64 1, .int .i64 1, .int .i64 0] 41)) (w5.heap.size + 1) (by simp)).mono ?_); rintro e w6 ⟨rfl, hb6⟩; have HB6 := Lib.hid hb6; clear hb6))
  go_ret
  have h1 := HB5.out.alloc HB5.out.size (.cells #[.int .i64 6, .int .i64 1, .int .i64 1, .string ⟨#[49]⟩, .string ⟨#[50]⟩, .int .i64 0, .int .i64 90, .int .i64 0, .int .i64 0, .bool false, .int .i64 0, .bool false] 33)
  exact ⟨rfl, HB.out.trans ((h1.trans (HB6.out.mono h1.size)).mono HB.out.size)⟩
end Go.Proofs.YtobkafkknbdacaaDoor.Va
