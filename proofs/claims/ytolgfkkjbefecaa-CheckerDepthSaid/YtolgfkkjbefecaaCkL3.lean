/- Walk of the law on the depth. -/
import Derived.Test.YtolgfkkjbefecaaCkD
namespace Go.Proofs.Ytolgfkkjbefecaa
open Go.RowKit Ck Go.Lib Go.Maps

set_option maxRecDepth 100000 in
set_option maxHeartbeats 16000000 in
theorem depthNot (n : Nat) (hn : n ≤ 40) (w : World) :
    Calls Try.prog 5 #[.int .u8 (n : Nat), .bool false] w fun e w' => e = .returned (.bool true) ∧ Below w.heap.size w w' := by
  have d1 : decide ((40 : Int) < (n : Int)) = false := decide_eq_false (by omega)
  obtain ⟨g, hg⟩ : ∃ g, w.heap.size = g := ⟨_, rfl⟩
  have HG := Lib.hid (show w.heap.size ≤ g by omega)
  go_enter Try.func5, Try.ntmps5
  go_upto_region 4 with fail
  have hbk : Blk (w.alloc (.cells #[.int .i64 3, .int .i64 0, .string ⟨#[102, 97, 109, 105, 108, 121]⟩, .slice none 0 0] 24)) g 24 #[.int .i64 3, .int .i64 0, .string ⟨#[102, 97, 109, 105, 108, 121]⟩, .slice none 0 0] := hg ▸ Blk.new w _ _
  have hb0 := below_one w (.cells #[.int .i64 3, .int .i64 0, .string ⟨#[102, 97, 109, 105, 108, 121]⟩, .slice none 0 0] 24)
  generalize w.alloc (.cells #[.int .i64 3, .int .i64 0, .string ⟨#[102, 97, 109, 105, 108, 121]⟩, .slice none 0 0] 24) = W1 at hbk hb0 ⊢
  have HB := Lib.hid hb0
  have HD0 : Hid (DE g false 0 W1) := Lib.hid (DE.zero W1 false rfl (by decide) hbk)
  clear hbk hb0
  go_wp2_with fail
  clear d1
  go_loopw [8] (fun iv wr => ∃ i : Nat, iv = .int .i64 i ∧ i ≤ n ∧ Hid (Below w.heap.size w wr) ∧ Hid (DE g false i wr)) (fun iv _ => n - (RowKit.intOf iv).toNat)
  case atStart => exact ⟨0, rfl, by omega, HB, HD0⟩
  case round =>
    obtain ⟨i, rfl, hi, HW, HD⟩ := hrel
    by_cases hlt : i < n
    · have hlt' : (i : Int) < (n : Int) := by omega
      obtain ⟨op, nm, tx, us, A, m, c, d, k1, k2, k3, k4, k5, k6, k7⟩ := HD.out
      have HK2 := Lib.hid k2
      obtain ⟨c0, c1, c2, c3⟩ := four k2
      have f0 := k2.frozen 0; have f1 := k2.frozen 1; have f2 := k2.frozen 2; have f3 := k2.frozen 3
      clear k2
      go_upto_region 14 with fail
      have hq2 := (Blk.new wr 24 #[.int .i64 op, .int .i64 nm, .string tx, .slice A m c]).alloc (.cells #[.int .i64 4, .int .i64 0, .string ⟨#[]⟩, .slice (some ⟨wr.heap.size, 0, none⟩) 1 1] 24)
      have hx2 := Blk.new (wr.alloc (.cells #[.int .i64 op, .int .i64 nm, .string tx, .slice A m c] 24)) 24 #[.int .i64 4, .int .i64 0, .string ⟨#[]⟩, .slice (some ⟨wr.heap.size, 0, none⟩) 1 1]
      have hb2 := (below_one wr (.cells #[.int .i64 op, .int .i64 nm, .string tx, .slice A m c] 24)).alloc (by simp) (.cells #[.int .i64 4, .int .i64 0, .string ⟨#[]⟩, .slice (some ⟨wr.heap.size, 0, none⟩) 1 1] 24)
      rw [show (wr.alloc (.cells #[.int .i64 op, .int .i64 nm, .string tx, .slice A m c] 24)).heap.size = wr.heap.size + 1 by simp] at hx2
      have hs2 : ((wr.alloc (.cells #[.int .i64 op, .int .i64 nm, .string tx, .slice A m c] 24)).alloc (.cells #[.int .i64 4, .int .i64 0, .string ⟨#[]⟩, .slice (some ⟨wr.heap.size, 0, none⟩) 1 1] 24)).heap.size = wr.heap.size + 2 := by simp
      generalize (wr.alloc (.cells #[.int .i64 op, .int .i64 nm, .string tx, .slice A m c] 24)).alloc (.cells #[.int .i64 4, .int .i64 0, .string ⟨#[]⟩, .slice (some ⟨wr.heap.size, 0, none⟩) 1 1] 24) = L2 at hq2 hx2 hb2 hs2 ⊢
      have hgl : g < wr.heap.size := HK2.out.lt
      have hg2 := HK2.out.below hb2 hgl
      have HQ2 := Lib.hid hq2; have HG2 := Lib.hid hg2; have HB2 := Lib.hid hb2; have HS2 := Lib.hid hs2; have HGL := Lib.hid hgl
      have HXX := Lib.hid (show dE false i = .mk op nm tx us ∧ us.length = m ∧ m ≤ c ∧ c ≤ maxLen ∧ tx.size ≤ maxLen ∧ XG g wr d A us from ⟨k1, k3, k4, k5, k6, k7⟩)
      obtain ⟨x0, x1, x2, x3⟩ := four hx2
      obtain ⟨y0, z0, y1, z1, y2, z2, y3, z3⟩ := ask4 hg2 (.int .i64 4) (.int .i64 0) (.string ⟨#[]⟩)
      clear hq2 hg2 hb2 hs2 hx2 hgl c0 c1 c2 c3 f0 f1 f2 f3 k1 k3 k4 k5 k6 k7
      go_wp2_with fail
      go_roundw
      case rel =>
        refine ⟨i + 1, by go_num, by omega, Lib.hid ?_, Lib.hid ?_⟩
        · have h := HW.out.trans (HB2.out.mono HW.out.size)
          exact (((h.setCell (p := ⟨g, 0, none⟩) HG.out _).setCell (p := ⟨g, 1, none⟩) HG.out _).setCell (p := ⟨g, 2, none⟩) HG.out _).setCell (p := ⟨g, 3, none⟩) HG.out _
        · obtain ⟨k1, k3, k4, k5, k6, k7⟩ := HXX.out
          refine DE.nots (w := wr) (q := wr.heap.size) HGL.out rfl ?_ ?_ k1 k3 k4 k5 k6 k7 (put4 HG2.out _ _ _ _) ?_
          · have := HS2.out
            simp only [World.size_setCell]
            omega
          · intro b hb hlt2
            exact (far4 hb _ _ _ _).trans (HB2.out.block b hlt2)
          · have hne : wr.heap.size ≠ g := by have := HGL.out; omega
            exact (far4 hne _ _ _ _).trans HQ2.out
      case measure => simp [RowKit.intOf]; omega
    · obtain rfl : i = n := by omega
      have hd : decide ((i : Int) < (i : Int)) = false := decide_eq_false (by omega)
      obtain ⟨op, nm, tx, us, A, m, c, d, k1, k2, k3, k4, k5, k6, k7⟩ := HD.out
      obtain ⟨c0, c1, c2, c3⟩ := four k2
      have hds := dE_sort false ⟨i, by omega⟩
      rw [show (⟨i, by omega⟩ : Fin 41).1 = i from rfl, k1] at hds
      by_cases h16 : 16 ≤ i
      · have d16 : decide ((16 : Int) ≤ (i : Int)) = true := decide_eq_true (by omega)
        rw [if_pos h16] at hds
        have HE := Lib.hid (expr_is hds A d m c wr k7.xa k3 k4 k5 k6)
        clear k1 k2 k3 k4 k5 k6 k7 hds h16
        go_wp2_with (first
          | (go_at_call 12; (with_reducible refine HE.out.mono ?_); rintro e w3 ⟨rfl, hb3⟩; have HB3 := Lib.hid (HW.out.trans (hb3.mono HW.out.size)); clear hb3 c0 c1 c2 c3)
          | (go_at_call 11; (with_reducible refine (awake_any _).mono ?_); rintro e w4 ⟨rfl, hb4⟩; have HB4 := Lib.hid (HB3.out.trans (hb4.mono HB3.out.size)); clear hb4))
        go_ret
        exact ⟨rfl, HB4.out⟩
      · have d16 : decide ((16 : Int) ≤ (i : Int)) = false := decide_eq_false (by omega)
        rw [if_neg h16, if_neg (by decide)] at hds
        have HE := Lib.hid (expr_is hds A d m c wr k7.xa k3 k4 k5 k6)
        clear k1 k2 k3 k4 k5 k6 k7 hds h16
        go_wp2_with (first
          | (go_at_call 12; (with_reducible refine HE.out.mono ?_); rintro e w3 ⟨rfl, hb3⟩; have HB3 := Lib.hid (HW.out.trans (hb3.mono HW.out.size)); clear hb3 c0 c1 c2 c3)
          | (go_at_call 11; (with_reducible refine (awake_any _).mono ?_); rintro e w4 ⟨rfl, hb4⟩; have HB4 := Lib.hid (HB3.out.trans (hb4.mono HB3.out.size)); clear hb4))
        go_ret
        exact ⟨rfl, HB4.out⟩
end Go.Proofs.Ytolgfkkjbefecaa
