/- Walk: the totals of records, of the program. -/
import Derived.Test.YtobkafkknbdacaaDoorBaM
import Derived.Deep.Cut
import Derived.Deep.CutRange
import Derived.RegionTactic
namespace Go.Proofs.YtobkafkknbdacaaDoor.Va
open Go.RowKit

theorem put6 {w : World} {g : Nat} {t : TypeId} {a b c d e f : Value} (h : Blk w g t #[a, b, c, d, e, f]) (v0 v1 v2 v3 v4 v5 : Value) : Blk ((((((w.setCell ⟨g, 0, none⟩ v0).setCell ⟨g, 1, none⟩ v1).setCell ⟨g, 2, none⟩ v2).setCell ⟨g, 3, none⟩ v3).setCell ⟨g, 4, none⟩ v4).setCell ⟨g, 5, none⟩ v5) g t #[v0, v1, v2, v3, v4, v5] := by
  unfold Blk at *
  simp [World.setCell, Array.getElem?_modify, h]
theorem keep6 {B g : Nat} {a w : World} (h : Below B a w) (hg : B ≤ g) (v0 v1 v2 v3 v4 v5 : Value) : Below B a ((((((w.setCell ⟨g, 0, none⟩ v0).setCell ⟨g, 1, none⟩ v1).setCell ⟨g, 2, none⟩ v2).setCell ⟨g, 3, none⟩ v3).setCell ⟨g, 4, none⟩ v4).setCell ⟨g, 5, none⟩ v5) := by
  repeat' apply Below.setCell
  all_goals first | exact h | exact hg
theorem results_cell1 {P : Program} {fn : Func} {p : Tmp} {ty : TypeId} (h : fn.results = #[.cell p ty]) (tmps : Array Value) (w : World) (g : Nat) (t : TypeId) (cs : Array Value) (fr : Nat × Nat) (d : TypeDesc)
    (hp : tmps.getD p undef = .pointer (some ⟨g, 0, none⟩)) (hg : w.heap[g]? = some (.cells cs t fr))
    (hu : P.underlying ty = some d) (hd : (match d with | .struct _ | .array _ _ => true | _ => false) = true) (hi : (P.info? ty).map (·.size) = some cs.size) :
    (results fn tmps).run P w = .ok (.agg cs) w := by
  have hp' : tmps[p]?.getD undef = .pointer (some ⟨g, 0, none⟩) := by simpa using hp
  simp [results, h, hp', asAddr, run_loadVar_row w g t ty cs fr d hg hu hd hi]
theorem rec_cells {w : World} (r : Rc) : RcC (w.alloc (.cells r.cells 33)) w.heap.size 0 r := fun i _ => by
  rw [Nat.zero_add]
  exact (Blk.new w 33 r.cells).cell i
set_option maxRecDepth 100000 in
set_option maxHeartbeats 16000000 in
theorem totals_any {w : World} {A : Option Addr} {n c : Nat} {l : List Rc} (hA : RecR w A l) (hl : l.length = n) (hn : n ≤ 5000) :
    Calls Tryd.prog 7 #[.slice A n c] w fun e w' => e = .returned (.agg (totC n (tt l))) ∧ Below w.heap.size w w' := by
  have HA := Lib.hid hA; have HN := Lib.hid hl
  obtain ⟨b0, hb0⟩ : ∃ b0, w.heap.size = b0 := ⟨_, rfl⟩
  have HB0 := Lib.hid hb0
  clear hA hl
  go_enter Tryd.func7, Tryd.ntmps7
  go_wp2_with fail
  go_loopw [11] (fun iv wr => ∃ k : Nat, iv = .int .i64 k ∧ k ≤ n ∧ Hid (Blk wr (b0 + 1) 27 (totC n (tt (l.take k)))) ∧ Hid (Blk wr b0 27 (totC 0 (tt []))) ∧ Hid (Below w.heap.size w wr)) (fun iv _ => n - (intOf iv).toNat)
  case atStart =>
    refine ⟨0, rfl, by omega, Lib.hid ?_, Lib.hid ?_, Lib.hid (((Below.refl _ _).alloc (Nat.le_refl _) _).alloc (by rw [World.size_alloc]; omega) _)⟩
    · have h1 := Blk.new (w.alloc (.cells #[.int .i64 0, .int .i64 0, .int .i64 0, .int .i64 0, .int .i64 0, .int .i64 0] 27)) 27 (totC n (tt []))
      rw [World.size_alloc, hb0] at h1
      rw [List.take_zero]
      exact h1
    · have h1 := Blk.new w 27 (totC 0 (tt []))
      rw [hb0] at h1
      exact h1.alloc _
  case round =>
    obtain ⟨k, rfl, hk, HT, HR, HB⟩ := hrel
    by_cases hlt : k < n
    · have hlt' : (k : Int) < (n : Int) := by omega
      have hk0 : (0 : Int) ≤ (k : Int) := by omega
      have hkl : k < l.length := by rw [HN.out]; exact hlt
      obtain ⟨bk, off, rfl, hbl, hcs⟩ := (HA.out.below HB.out) k hkl
      have HNO := Lib.hid (fun h => tot_no (n := n) hkl h)
      have HYE := Lib.hid (fun h (q : Nat) hq => tot_yes (n := n) (q := q) hkl h hq)
      obtain ⟨⟨s0, s1, s2, sa, sb, s5, s6, s7, s8, b9, s10, b11⟩, hp⟩ : ∃ r, l.getD k rc0 = r := ⟨_, rfl⟩
      rw [hp] at hcs HNO HYE
      obtain ⟨e0, e1, e2, e3, e4, e5, e6, e7, e8, e9, e10, e11⟩ := hcs.all
      simp only at e0 e1 e2 e3 e4 e5 e6 e7 e8 e9 e10 e11
      have hrc := rec_cells (w := wr) ⟨s0, s1, s2, sa, sb, s5, s6, s7, s8, b9, s10, b11⟩
      have d2 := hrc 2 (by decide)
      have d6 := hrc 6 (by decide)
      simp only [Rc.cells, Nat.zero_add] at d2 d6
      have hg2 : b0 + 1 < wr.heap.size := HT.out.lt
      have HTA := Lib.hid (HT.out.alloc (.cells #[.int .i64 s0, .int .i64 s1, .int .i64 s2, .string sa, .string sb, .int .i64 s5, .int .i64 s6, .int .i64 s7, .int .i64 s8, .bool b9, .int .i64 s10, .bool b11] 33))
      have HRA := Lib.hid (HR.out.alloc (.cells #[.int .i64 s0, .int .i64 s1, .int .i64 s2, .string sa, .string sb, .int .i64 s5, .int .i64 s6, .int .i64 s7, .int .i64 s8, .bool b9, .int .i64 s10, .bool b11] 33))
      have HBA := Lib.hid (HB.out.alloc HB.out.size (.cells #[.int .i64 s0, .int .i64 s1, .int .i64 s2, .string sa, .string sb, .int .i64 s5, .int .i64 s6, .int .i64 s7, .int .i64 s8, .bool b9, .int .i64 s10, .bool b11] 33))
      have hok : okT ⟨s0, s1, s2, sa, sb, s5, s6, s7, s8, b9, s10, b11⟩ = (decide (1 ≤ s2) && decide (s2 < 5) && decide (0 ≤ s6) && decide (s6 ≤ 1099511627776)) := rfl
      clear hp hcs hbl hkl hrc
      by_cases c1 : s2 < 1
      · have HX := Lib.hid (HNO.out (by rw [hok]; simp; omega))
        clear hok
        go_wp2
        go_roundw
        case rel => exact ⟨k + 1, by go_num, by omega, Lib.hid (by rw [HX.out]; exact HTA.out), HRA, HBA⟩
        case measure => simp [intOf]; omega
      · by_cases c2 : 5 ≤ s2
        · have HX := Lib.hid (HNO.out (by rw [hok]; simp; omega))
          clear hok
          go_wp2
          go_roundw
          case rel => exact ⟨k + 1, by go_num, by omega, Lib.hid (by rw [HX.out]; exact HTA.out), HRA, HBA⟩
          case measure => simp [intOf]; omega
        · by_cases c3 : s6 < 0
          · have HX := Lib.hid (HNO.out (by rw [hok]; simp; omega))
            clear hok
            go_wp2
            go_roundw
            case rel => exact ⟨k + 1, by go_num, by omega, Lib.hid (by rw [HX.out]; exact HTA.out), HRA, HBA⟩
            case measure => simp [intOf]; omega
          · by_cases c4 : 1099511627776 < s6
            · have HX := Lib.hid (HNO.out (by rw [hok]; simp; omega))
              clear hok
              go_wp2
              go_roundw
              case rel => exact ⟨k + 1, by go_num, by omega, Lib.hid (by rw [HX.out]; exact HTA.out), HRA, HBA⟩
              case measure => simp [intOf]; omega
            · have hyes : okT ⟨s0, s1, s2, sa, sb, s5, s6, s7, s8, b9, s10, b11⟩ = true := by rw [hok]; simp; omega
              obtain ⟨q, rfl⟩ := Int.eq_ofNat_of_zero_le (show 0 ≤ s2 by omega)
              have hx := HYE.out hyes q rfl
              have htr := tt_ran (l.take k) q
              have htl : (l.take k).length ≤ 5000 := by rw [List.length_take]; omega
              obtain ⟨u, hu⟩ : ∃ u, tt (l.take k) q = u := ⟨_, rfl⟩
              rw [hu] at htr hx
              have hcu : (wr.alloc (.cells #[.int .i64 s0, .int .i64 s1, .int .i64 (q : Int), .string sa, .string sb, .int .i64 s5, .int .i64 s6, .int .i64 s7, .int .i64 s8, .bool b9, .int .i64 s10, .bool b11] 33)).drew.cell? ⟨b0 + 1, 1 + q, none⟩ = some (.int .i64 u) := by rw [← hu]; exact (HTA.out.cell (1 + q)).trans (tot_at (by omega))
              have hfu : (wr.alloc (.cells #[.int .i64 s0, .int .i64 s1, .int .i64 (q : Int), .string sa, .string sb, .int .i64 s5, .int .i64 s6, .int .i64 s7, .int .i64 s8, .bool b9, .int .i64 s10, .bool b11] 33)).drew.frozen? ⟨b0 + 1, 1 + q, none⟩ = false := HTA.out.frozen (1 + q)
              have hw6 : IntKind.i64.wrap (u + s6) = u + s6 := IntWalk.i64_in _ (by omega)
              have hq1 : (1 : Int) ≤ (q : Int) := by omega
              have hq5 : (q : Int) < 5 := by omega
              have hq0 : (0 : Int) ≤ (q : Int) := by omega
              have HX := Lib.hid hx
              have HTS := Lib.hid (HT.out.set_ (1 + q) (.int .i64 (u + s6)))
              have HRS := Lib.hid (HR.out.far (p := ⟨b0 + 1, 1 + q, none⟩) (by simp) (.int .i64 (u + s6)))
              have HBS := Lib.hid (HB.out.setCell (p := ⟨b0 + 1, 1 + q, none⟩) (by rw [HB0.out]; exact Nat.le_succ _) (.int .i64 (u + s6)))
              clear hok hyes hx htr htl hu
              go_upto_region 6 with fail
              go_region
              go_wp2
              go_roundw
              case rel => exact ⟨k + 1, by go_num, by omega, Lib.hid (by rw [HX.out]; exact (HTS.out.alloc _).drew), Lib.hid (HRS.out.alloc _).drew, Lib.hid ((HBS.out.alloc HBS.out.size _).drew)⟩
              case measure => simp [intOf]; omega
    · obtain rfl : k = n := by omega
      obtain ⟨t0, t1, t2, t3, t4, t5⟩ := (show _ ∧ _ ∧ _ ∧ _ ∧ _ ∧ _ from ⟨HT.out.cell 0, HT.out.cell 1, HT.out.cell 2, HT.out.cell 3, HT.out.cell 4, HT.out.cell 5⟩)
      have r0 := HR.out.cell 0; have r1 := HR.out.cell 1; have r2 := HR.out.cell 2; have r3 := HR.out.cell 3; have r4 := HR.out.cell 4; have r5 := HR.out.cell 5
      have hfr := HR.out.frozen
      have HTL : Hid (l.take k = l) := Lib.hid (List.take_of_length_le (by rw [HN.out]; omega))
      simp only [totC] at t0 t1 t2 t3 t4 t5 r0 r1 r2 r3 r4 r5
      go_wp2
      refine bodyPost_ret (v := .agg (totC k (tt (l.take k)))) ?_ rfl ⟨by rw [HTL.out], ?_⟩
      · exact results_cell1 (p := 2) rfl _ _ b0 27 (totC k (tt (l.take k))) (0, 0) _ rfl (put6 HR.out _ _ _ _ _ _) Tryd.underlying27 rfl rfl
      · exact keep6 HB.out (by rw [HB0.out]; exact Nat.le_refl _) _ _ _ _ _ _
end Go.Proofs.YtobkafkknbdacaaDoor.Va
