/- Walk of the law on the depth: sums. -/
import Derived.Test.YtolgfkkjbefecaaCkL3
namespace Go.Proofs.Ytolgfkkjbefecaa
open Go.RowKit Ck Go.Lib Go.Maps

set_option maxRecDepth 100000 in
set_option maxHeartbeats 16000000 in
theorem depthNum (n : Nat) (hn : n ≤ 40) (w : World) :
    Calls Try.prog 5 #[.int .u8 (n : Nat), .bool true] w fun e w' => e = .returned (.bool true) ∧ Below w.heap.size w w' := by
  have d1 : decide ((40 : Int) < (n : Int)) = false := decide_eq_false (by omega)
  obtain ⟨g, hg⟩ : ∃ g, w.heap.size = g := ⟨_, rfl⟩
  have HG := Lib.hid (show w.heap.size ≤ g by omega)
  go_enter Try.func5, Try.ntmps5
  go_upto_region 4 with fail
  have hbk : Blk (w.alloc (.cells #[.int .i64 3, .int .i64 0, .string ⟨#[102, 97, 109, 105, 108, 121]⟩, .slice none 0 0] 24)) g 24 #[.int .i64 3, .int .i64 0, .string ⟨#[102, 97, 109, 105, 108, 121]⟩, .slice none 0 0] := hg ▸ Blk.new w _ _
  have hb0 := below_one w (.cells #[.int .i64 3, .int .i64 0, .string ⟨#[102, 97, 109, 105, 108, 121]⟩, .slice none 0 0] 24)
  generalize w.alloc (.cells #[.int .i64 3, .int .i64 0, .string ⟨#[102, 97, 109, 105, 108, 121]⟩, .slice none 0 0] 24) = W1 at hbk hb0 ⊢
  have HB : Hid (Below w.heap.size w ((((W1.setCell ⟨g, 0, none⟩ (.int .i64 1)).setCell ⟨g, 1, none⟩ (.int .i64 7)).setCell ⟨g, 2, none⟩ (.string ⟨#[]⟩)).setCell ⟨g, 3, none⟩ (.slice none 0 0))) := Lib.hid ((((hb0.setCell (p := ⟨g, 0, none⟩) HG.out _).setCell (p := ⟨g, 1, none⟩) HG.out _).setCell (p := ⟨g, 2, none⟩) HG.out _).setCell (p := ⟨g, 3, none⟩) HG.out _)
  have HD0 : Hid (DE g true 0 ((((W1.setCell ⟨g, 0, none⟩ (.int .i64 1)).setCell ⟨g, 1, none⟩ (.int .i64 7)).setCell ⟨g, 2, none⟩ (.string ⟨#[]⟩)).setCell ⟨g, 3, none⟩ (.slice none 0 0))) := Lib.hid (DE.zero _ true rfl (by decide) (put4 hbk _ _ _ _))
  obtain ⟨i0, hi0, hz0, hz1, hz2⟩ := info_parts exInfo
  obtain ⟨y0, z0, y1, z1, y2, z2, y3, z3⟩ := ask4 hbk (.int .i64 1) (.int .i64 7) (.string ⟨#[]⟩)
  clear hbk hb0
  go_wp2_with fail
  clear y0 z0 y1 z1 y2 z2 y3 z3
  clear d1
  go_loopw [8] (fun iv wr => ∃ i : Nat, iv = .int .i64 i ∧ i ≤ n ∧ Hid (Below w.heap.size w wr) ∧ Hid (DE g true i wr)) (fun iv _ => n - (RowKit.intOf iv).toNat)
  case atStart => exact ⟨0, rfl, by omega, HB, HD0⟩
  case round =>
    obtain ⟨i, rfl, hi, HW, HD⟩ := hrel
    by_cases hlt : i < n
    · have hlt' : (i : Int) < (n : Int) := by omega
      obtain ⟨op, nm, tx, us, A, m, c, d, k1, k2, k3, k4, k5, k6, k7⟩ := HD.out
      have HK2 := Lib.hid k2
      obtain ⟨c0, c1, c2, c3⟩ := four k2
      have f0 := k2.frozen 0; have f1 := k2.frozen 1; have f2 := k2.frozen 2; have f3 := k2.frozen 3
      clear k2
      go_upto_region 13 with fail
      have hgl : g < wr.heap.size := HK2.out.lt
      have hq2 := (World.ownsRow_lit (base := g + 1) (e := 24) (size := 4) wr #[.int .i64 op, .int .i64 nm, .string tx, .slice A m c] 1 (by omega) (by decide) rfl).alloc (.cells #[.int .i64 11, .int .i64 0, .string ⟨#[]⟩, .slice (some ⟨wr.heap.size, 0, none⟩) 1 1] 24)
      have hx2 := Blk.new (wr.alloc (.cells #[.int .i64 op, .int .i64 nm, .string tx, .slice A m c] 24)) 24 #[.int .i64 11, .int .i64 0, .string ⟨#[]⟩, .slice (some ⟨wr.heap.size, 0, none⟩) 1 1]
      have hb2 := (below_one wr (.cells #[.int .i64 op, .int .i64 nm, .string tx, .slice A m c] 24)).alloc (by simp) (.cells #[.int .i64 11, .int .i64 0, .string ⟨#[]⟩, .slice (some ⟨wr.heap.size, 0, none⟩) 1 1] 24)
      rw [show (wr.alloc (.cells #[.int .i64 op, .int .i64 nm, .string tx, .slice A m c] 24)).heap.size = wr.heap.size + 1 by simp] at hx2
      have hs2 : ((wr.alloc (.cells #[.int .i64 op, .int .i64 nm, .string tx, .slice A m c] 24)).alloc (.cells #[.int .i64 11, .int .i64 0, .string ⟨#[]⟩, .slice (some ⟨wr.heap.size, 0, none⟩) 1 1] 24)).heap.size = wr.heap.size + 2 := by simp
      generalize (wr.alloc (.cells #[.int .i64 op, .int .i64 nm, .string tx, .slice A m c] 24)).alloc (.cells #[.int .i64 11, .int .i64 0, .string ⟨#[]⟩, .slice (some ⟨wr.heap.size, 0, none⟩) 1 1] 24) = L2 at hq2 hx2 hb2 hs2 ⊢
      have hg2 := HK2.out.below hb2 hgl
      have HQ2 := Lib.hid hq2; have HG2 := Lib.hid hg2; have HB2 := Lib.hid hb2; have HS2 := Lib.hid hs2; have HGL := Lib.hid hgl; have HX2 := Lib.hid hx2
      have HXX := Lib.hid (show dE true i = .mk op nm tx us ∧ us.length = m ∧ m ≤ c ∧ c ≤ maxLen ∧ tx.size ≤ maxLen ∧ XG g wr d A us from ⟨k1, k3, k4, k5, k6, k7⟩)
      obtain ⟨x0, x1, x2, x3⟩ := four hx2
      clear hq2 hg2 hb2 hs2 hx2 hgl c0 c1 c2 c3 f0 f1 f2 f3 k1 k3 k4 k5 k6 k7
      go_wp2_with (at_builtin; go_loud (refine wpList_append_own_at _ rfl (.tmp 30) (.tmp 33) 22 rfl (g + 1) 24 i0 _ 4 56 Try.underlying22 hi0 hz0 hz1 hz2 rfl (by decide) _ _ [.int .i64 op, .int .i64 nm, .string tx, .slice A m c] rfl (HQ2.out.alloc _) ⟨L2.heap.size, 0, none⟩ 1 1 [.int .i64 1, .int .i64 (i : Nat), .string ⟨#[]⟩, .slice none 0 0] rfl rfl src4 (by simp [Value.oneCell']) (by decide) (by decide) (by have := HS2.out; have := HGL.out; simp; omega) ?_; intro v4 w4 g1 g2 _ g4; obtain ⟨z, cz, rfl, p1, p2, p3, p4⟩ := own_formP g1 (by decide); have HZX : Hid (z ≠ wr.heap.size + 1) := Lib.hid (g4.elim (fun h => by have e2 : z = wr.heap.size := Option.some.inj h; omega) (fun h => by have e2 : z = (L2.alloc (.cells #[.int .i64 1, .int .i64 (i : Nat), .string ⟨#[]⟩, .slice none 0 0] 24)).heap.size := Option.some.inj h; rw [World.size_alloc] at e2; have := HS2.out; omega)); have HO4 := Lib.hid g1; have HG4 := Lib.hid g2; have HP := Lib.hid (show 2 ≤ cz ∧ cz ≤ maxLen ∧ g + 1 ≤ z ∧ z < w4.heap.size from ⟨p1, p2, p3, p4⟩); have hxx := (HX2.out.alloc (.cells #[.int .i64 1, .int .i64 (i : Nat), .string ⟨#[]⟩, .slice none 0 0] 24)).grown g2 (by intro e; have e2 : wr.heap.size + 1 = wr.heap.size := Option.some.inj e; omega); have hgg := (HG2.out.alloc (.cells #[.int .i64 1, .int .i64 (i : Nat), .string ⟨#[]⟩, .slice none 0 0] 24)).grown g2 (by intro e; have e2 : g = wr.heap.size := Option.some.inj e; have := HGL.out; omega); have q3 := hxx.cell 3; have r3 := hxx.frozen 3; have hx5 := hxx.set_ 3 (.slice (some ⟨z, 0, none⟩) 2 cz); have q0 := hx5.cell 0; have q1 := hx5.cell 1; have q2 := hx5.cell 2; have q4 := hx5.cell 3; have HX5 := Lib.hid hx5; have hg5 := hgg.far (p := ⟨wr.heap.size + 1, 3, none⟩) (by have := HGL.out; show g ≠ wr.heap.size + 1; omega) (.slice (some ⟨z, 0, none⟩) 2 cz); have HG5 := Lib.hid hg5; obtain ⟨y0, z0, y1, z1, y2, z2, y3, z3⟩ := ask4 hg5 (.int .i64 11) (.int .i64 0) (.string ⟨#[]⟩); clear g1 g2 g4 p1 p2 p3 p4 hxx hgg hx5 hg5 x0 x1 x2 x3))
      go_roundw
      case rel =>
        refine ⟨i + 1, by go_num, by omega, Lib.hid ?_, Lib.hid ?_⟩
        · have h := HW.out.trans (HB2.out.mono HW.out.size)
          have h2 := h.alloc (by have := HW.out.size; have := HS2.out; omega) (.cells #[.int .i64 1, .int .i64 (i : Nat), .string ⟨#[]⟩, .slice none 0 0] 24)
          have h3 := Zn.below_grown h2 HG4.out (fun k hk => by have e2 : wr.heap.size = k := Option.some.inj hk; have := HGL.out; have := HG.out; omega) (by have := h.size; simp; omega)
          have h4 := h3.setCell (p := ⟨wr.heap.size + 1, 3, none⟩) (by have := HGL.out; have := HG.out; show w.heap.size ≤ wr.heap.size + 1; omega) (.slice (some ⟨z, 0, none⟩) 2 cz)
          exact (((h4.setCell (p := ⟨g, 0, none⟩) HG.out _).setCell (p := ⟨g, 1, none⟩) HG.out _).setCell (p := ⟨g, 2, none⟩) HG.out _).setCell (p := ⟨g, 3, none⟩) HG.out _
        · obtain ⟨k1, k3, k4, k5, k6, k7⟩ := HXX.out
          obtain ⟨p1, p2, p3, p4⟩ := HP.out
          have hzx := HZX.out
          refine DE.sums (w := wr) (z := z) (by omega) ?_ ?_ ?_ k1 k3 k4 k5 k6 k7 p1 p2 (put4 HG5.out _ _ _ _) ?_
          · simp only [World.size_setCell]; exact p4
          · have := HG4.out.size
            have := HS2.out
            simp only [World.size_setCell, World.size_alloc] at *
            omega
          · intro b hb hlt2
            refine (far4 hb _ _ _ _).trans ((Below.heap_setCell _ _ _ _ (by show b ≠ wr.heap.size + 1; omega)).trans ((HG4.out.block b (by have := HS2.out; simp; omega) (by intro e; have e2 : b = wr.heap.size := Option.some.inj e; omega)).trans ?_))
            exact (Below.heap_alloc _ _ _ (by have := HS2.out; omega)).trans (HB2.out.block b hlt2)
          · intro j hj
            have hzg : z ≠ g := by omega
            have h1 := World.ownsRow.cellAt HO4.out j (by omega)
            rw [World.cell?_of_block (w := w4) (a := ⟨z, j, none⟩) ((far4 hzg _ _ _ _).trans (Below.heap_setCell _ _ _ _ hzx)), h1]
            rfl
      case measure => simp [RowKit.intOf]; omega
    · obtain rfl : i = n := by omega
      have hd : decide ((i : Int) < (i : Int)) = false := decide_eq_false (by omega)
      obtain ⟨op, nm, tx, us, A, m, c, d, k1, k2, k3, k4, k5, k6, k7⟩ := HD.out
      obtain ⟨c0, c1, c2, c3⟩ := four k2
      have hds := dE_sort true ⟨i, by omega⟩
      rw [show (⟨i, by omega⟩ : Fin 41).1 = i from rfl, k1] at hds
      by_cases h16 : 16 ≤ i
      · have d16 : decide ((16 : Int) ≤ (i : Int)) = true := decide_eq_true (by omega)
        rw [if_pos h16] at hds
        have HE := Lib.hid (expr_is hds A d m c wr k7.xa k3 k4 k5 k6)
        clear k1 k2 k3 k4 k5 k6 k7 hds h16
        go_wp2_with (first
          | (go_at_call 12; (with_reducible refine HE.out.mono ?_); rintro e w3 ⟨rfl, hb3⟩; have HB3 := Lib.hid (HW.out.trans (hb3.mono HW.out.size)); clear hb3 c0 c1 c2 c3)
          | (go_at_call 11; (with_reducible refine (awake_any _).mono ?_); rintro e w4 ⟨rfl, hb4⟩; have HB4 := Lib.hid (HB3.out.trans (hb4.mono HB3.out.size)); clear hb4))
        go_ret
        exact ⟨rfl, HB4.out⟩
      · have d16 : decide ((16 : Int) ≤ (i : Int)) = false := decide_eq_false (by omega)
        rw [if_neg h16, if_pos rfl] at hds
        have HE := Lib.hid (expr_is hds A d m c wr k7.xa k3 k4 k5 k6)
        clear k1 k2 k3 k4 k5 k6 k7 hds h16
        go_wp2_with (first
          | (go_at_call 12; (with_reducible refine HE.out.mono ?_); rintro e w3 ⟨rfl, hb3⟩; have HB3 := Lib.hid (HW.out.trans (hb3.mono HW.out.size)); clear hb3 c0 c1 c2 c3)
          | (go_at_call 11; (with_reducible refine (awake_any _).mono ?_); rintro e w4 ⟨rfl, hb4⟩; have HB4 := Lib.hid (HB3.out.trans (hb4.mono HB3.out.size)); clear hb4))
        go_ret
        exact ⟨rfl, HB4.out⟩
end Go.Proofs.Ytolgfkkjbefecaa
