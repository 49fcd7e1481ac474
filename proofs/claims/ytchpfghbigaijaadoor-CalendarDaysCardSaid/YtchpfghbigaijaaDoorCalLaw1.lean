/- Walks: the laws on days and on dates. -/
import Derived.Test.YtchpfghbigaijaaDoorCalAwake
namespace Go.Proofs.YtchpfghbigaijaaDoor
open Go.RowKit

set_option maxHeartbeats 4000000 in
theorem walkCalendarDays (y m d : Int) (w : World) (ht : Tab w) :
    Calls Tryd.prog 3 #[.agg #[.int .i64 y, .int .i64 m, .int .i64 d]] w fun e w' => e = .returned (.bool true) ∧ Below w.heap.size w w' := by
  have HT := Lib.hid ht; clear ht
  have H1 := Lib.hid (fun w => day_any y m d w)
  have H2 := Lib.hid (fun w => refDay_any y m d w)
  have H3 := Lib.hid (fun w => length_any y m w)
  have H4 := Lib.hid (fun w => refLength_any y m w)
  generalize dayV y m d = a at *
  generalize dayE y m d = b at *
  generalize lenI y m = l at *
  obtain ⟨hg, hc0, hc1, hc2⟩ := Dat.new w y m d
  go_enter Tryd.func3, Tryd.ntmps3
  go_wp2_with fail
  refine (H1.out _).mono ?_
  rintro e w1 ⟨rfl, hb1⟩
  have hbw1 : Below w.heap.size w w1 := ((Below.refl _ w).alloc (Nat.le_refl _) _).trans (hb1.mono (by simp))
  have hD1 : Dat w1 w.heap.size y m d := (Dat.new w y m d).below hb1
  have HD1 := Lib.hid hD1
  obtain ⟨hg1, d0, d1, d2⟩ := hD1
  clear hb1 hg hc0 hc1 hc2
  go_wp2_with fail
  refine (H2.out _).mono ?_
  rintro e w2 ⟨rfl, hb2⟩
  have hbw2 := hbw1.trans (hb2.mono hbw1.size)
  have hD2 := HD1.out.below hb2
  have HD2 := Lib.hid hD2
  obtain ⟨hg2, e0, e1, e2⟩ := hD2
  clear hb2 hg1 d0 d1 d2 HD1 hbw1
  go_wp2
  go_region_held3 (fun w' => w'.cell? ⟨w.heap.size, 0, none⟩ = some (.int .i64 y) ∧ w'.cell? ⟨w.heap.size, 1, none⟩ = some (.int .i64 m)) (go_keep)
    (first
      | (go_at_call 11; (with_reducible refine (H3.out _).mono ?_); rintro e w3 ⟨rfl, hb3⟩; have HB3 := Lib.hid (hbw2.drew.trans (hb3.mono hbw2.drew.size)); have HT3 := Lib.hid (Tab.below HT.out HB3.out); obtain ⟨hg3, f0, f1, f2⟩ := HD2.out.drew.below hb3)
      | (go_at_call 12; (with_reducible refine (H4.out _).mono ?_); rintro e w4 ⟨rfl, rfl⟩)
      | (go_at_call 13; (with_reducible refine (awake_any _ HT3.out).mono ?_); rintro e w5 ⟨rfl, hb5⟩; obtain ⟨hg5, i0, i1, i2⟩ := Dat.below ⟨hg3, f0, f1, f2⟩ hb5))
  go_wp2
  go_ret
  exact ⟨rfl, HB3.out.trans (hb5.mono HB3.out.size)⟩

set_option maxHeartbeats 4000000 in
theorem walkCalendarDates (n : Int) (w : World) (wn : (Lit.int .i64 n).wf = true) (ht : Tab w) :
    Calls Tryd.prog 4 #[.int .i64 n] w fun e w' => e = .returned (.bool true) ∧ Below w.heap.size w w' := by
  have HT := Lib.hid ht; clear ht wn
  have H1 := Lib.hid (fun w => date_any n w)
  have H2 := Lib.hid (fun w => refDate_any n w)
  have H3 := Lib.hid (fun w => weekday_any n w)
  have H4 := Lib.hid (fun w => refWeekday_any n w)
  obtain ⟨y, m, d, hv⟩ : ∃ y m d : Int, dateV n = .agg #[.int .i64 y, .int .i64 m, .int .i64 d] := by
    unfold dateV; split
    · exact ⟨_, _, _, rfl⟩
    · exact ⟨_, _, _, rfl⟩
  rw [hv] at H1 H2
  clear hv
  generalize wkI n = k at *
  have hgd := guardDate
  have heq := eqDate_same y m d
  go_enter Tryd.func4, Tryd.ntmps4
  go_wp2_with fail
  refine (H1.out _).mono ?_
  rintro e w1 ⟨rfl, hb1⟩
  go_wp2_with fail
  refine (H2.out _).mono ?_
  rintro e w2 ⟨rfl, hb2⟩
  have hbw := hb1.trans (hb2.mono hb1.size)
  have HT2 := Lib.hid (Tab.below HT.out hbw)
  clear hb1 hb2
  go_wp2_with (first
    | (go_at_call 16; (with_reducible refine (H3.out _).mono ?_); rintro e w3 ⟨rfl, rfl⟩)
    | (go_at_call 17; (with_reducible refine (H4.out _).mono ?_); rintro e w3 ⟨rfl, rfl⟩)
    | (go_at_call 13; (with_reducible refine (awake_any _ HT2.out).mono ?_); rintro e w5 ⟨rfl, hb5⟩))
  go_ret
  exact ⟨rfl, hbw.trans (hb5.mono hbw.size)⟩
end Go.Proofs.YtchpfghbigaijaaDoor
