/- Walk: the chapter's examples hold. -/
import Derived.Test.YtigohhliblgdhaaDoorCalPar2
import Derived.Test.YtigohhliblgdhaaDoorRefCycle
namespace Go.Proofs.YtigohhliblgdhaaDoor
open Go.RowKit

theorem awDay1 (w : World) : Calls Tryd.prog 9 #[.agg #[.int .i64 2000, .int .i64 3, .int .i64 1]] w fun e w' => e = .returned (.tuple #[.int .i64 60, .int .i64 0]) ∧ Below w.heap.size w w' := by
  have h := day_any 2000 3 1 w
  rwa [show dayV 2000 3 1 = 60 by decide +kernel, show dayE 2000 3 1 = 0 by decide +kernel] at h
theorem awDay2 (w : World) : Calls Tryd.prog 9 #[.agg #[.int .i64 2001, .int .i64 1, .int .i64 1]] w fun e w' => e = .returned (.tuple #[.int .i64 366, .int .i64 0]) ∧ Below w.heap.size w w' := by
  have h := day_any 2001 1 1 w
  rwa [show dayV 2001 1 1 = 366 by decide +kernel, show dayE 2001 1 1 = 0 by decide +kernel] at h
theorem awDay3 (w : World) : Calls Tryd.prog 9 #[.agg #[.int .i64 2001, .int .i64 2, .int .i64 29]] w fun e w' => e = .returned (.tuple #[.int .i64 0, .int .i64 6]) ∧ Below w.heap.size w w' := by
  have h := day_any 2001 2 29 w
  rwa [show dayV 2001 2 29 = 0 by decide +kernel, show dayE 2001 2 29 = 6 by decide +kernel] at h
theorem awCycle (w : World) : Calls Tryd.prog 20 #[.int .i64 15, .int .i64 1209600] w fun e w' => e = .returned (.agg #[.int .i64 1209600, .int .i64 3888000]) ∧ Below w.heap.size w w' := by
  have h := cycle_in 15 1209600 w (by decide) (by decide) (by decide) (by decide)
  rwa [show mon 15 1209600 = 0 by decide +kernel, show st 15 0 = 1209600 by decide +kernel, show st 15 (0 + 1) = 3888000 by decide +kernel] at h
theorem awCycles (w : World) : Calls Tryd.prog 24 #[.int .i64 1, .agg #[.int .i64 0, .int .i64 2764800]] w fun e w' => ∃ g c, e = .returned (.slice (some ⟨g, 0, none⟩) 2 c) ∧ 2 ≤ c ∧ g < w'.heap.size ∧ w'.cell? ⟨g, 2, none⟩ = some (.int .i64 2678400) ∧ w'.cell? ⟨g, 3, none⟩ = some (.int .i64 5184000) ∧ Below w.heap.size w w' := by
  have h := cycles_in 1 0 2764800 w (by decide) (by decide) (by decide) (by decide) (by decide)
  rw [show cnt 1 0 2764800 = 2 by decide +kernel, show mon 1 0 = 0 by decide +kernel] at h
  refine h.mono fun e w' ⟨v, he, hown, hb⟩ => ?_
  obtain ⟨g, c, rfl, hp, hc⟩ := prs_cyc hown (by decide)
  obtain ⟨b, off, eq, hbl, d0, d1⟩ := hp 1 (by decide)
  simp only [Option.some.injEq, Addr.mk.injEq] at eq
  obtain ⟨rfl, rfl, _⟩ := eq
  refine ⟨g, c, he, hc, hbl, ?_, ?_, hb⟩
  · rw [show (2 : Nat) = 0 + 1 * 2 from rfl, d0]; exact congrArg (fun x => some (Value.int .i64 x)) (by decide +kernel)
  · rw [show (3 : Nat) = 0 + 1 * 2 + 1 from rfl, d1]; exact congrArg (fun x => some (Value.int .i64 x)) (by decide +kernel)
theorem awParse1 (w : World) : Calls Tryd.prog 18 #[.string ⟨#[50, 48, 48, 49, 45, 48, 49, 45, 48, 49]⟩] w fun e w' => e = .returned (.tuple #[.int .i64 366, .int .i64 0]) ∧ Below w.heap.size w w' := by
  have h := parse_any ⟨#[50, 48, 48, 49, 45, 48, 49, 45, 48, 49]⟩ w (by decide)
  rwa [show parV (⟨#[50, 48, 48, 49, 45, 48, 49, 45, 48, 49]⟩ : ByteArray).data.toList = 366 by decide +kernel, show parE (⟨#[50, 48, 48, 49, 45, 48, 49, 45, 48, 49]⟩ : ByteArray).data.toList = 0 by decide +kernel] at h
theorem awParse2 (w : World) : Calls Tryd.prog 18 #[.string ⟨#[50, 48, 48, 49, 45, 49, 45, 48, 49]⟩] w fun e w' => e = .returned (.tuple #[.int .i64 0, .int .i64 1]) ∧ Below w.heap.size w w' := by
  have h := parse_any ⟨#[50, 48, 48, 49, 45, 49, 45, 48, 49]⟩ w (by decide)
  rwa [show parV (⟨#[50, 48, 48, 49, 45, 49, 45, 48, 49]⟩ : ByteArray).data.toList = 0 by decide +kernel, show parE (⟨#[50, 48, 48, 49, 45, 49, 45, 48, 49]⟩ : ByteArray).data.toList = 1 by decide +kernel] at h
theorem awParse3 (w : World) : Calls Tryd.prog 18 #[.string ⟨#[50, 48, 48, 49, 45, 49, 51, 45, 48, 49]⟩] w fun e w' => e = .returned (.tuple #[.int .i64 0, .int .i64 6]) ∧ Below w.heap.size w w' := by
  have h := parse_any ⟨#[50, 48, 48, 49, 45, 49, 51, 45, 48, 49]⟩ w (by decide)
  rwa [show parV (⟨#[50, 48, 48, 49, 45, 49, 51, 45, 48, 49]⟩ : ByteArray).data.toList = 0 by decide +kernel, show parE (⟨#[50, 48, 48, 49, 45, 49, 51, 45, 48, 49]⟩ : ByteArray).data.toList = 6 by decide +kernel] at h
theorem awWeek0 (w : World) : Calls Tryd.prog 16 #[.int .i64 0] w fun e w' => e = .returned (.int .i64 5) ∧ w = w' := weekday_any 0 w
theorem awWeek2 (w : World) : Calls Tryd.prog 16 #[.int .i64 2] w fun e w' => e = .returned (.int .i64 0) ∧ w = w' := weekday_any 2 w
theorem awPrint (w : World) (ht : Tab w) : Calls Tryd.prog 19 #[.int .i64 366] w fun e w' => e = .returned (.string ⟨#[50, 48, 48, 49, 45, 48, 49, 45, 48, 49]⟩) ∧ Below w.heap.size w w' := by
  have h := print_any 366 w ht
  rwa [show S (prT 366) = ⟨#[50, 48, 48, 49, 45, 48, 49, 45, 48, 49]⟩ by decide +kernel] at h

set_option maxHeartbeats 4000000 in
set_option maxRecDepth 100000 in
theorem awake_any (w : World) (ht : Tab w) : Calls Tryd.prog 13 #[] w fun e w' => e = .returned (.bool true) ∧ Below w.heap.size w w' := by
  have HT := Lib.hid ht; clear ht
  have hgd := guardPeriod
  have heq1 := eqPeriod_same 1209600 3888000
  have heq2 := eqPeriod_same 2678400 5184000
  go_enter Tryd.func13, Tryd.ntmps13
  go_wp2_with fail
  refine (awDay1 _).mono ?_
  rintro e w1 ⟨rfl, hb1⟩
  go_wp2_with fail
  refine (awDay2 _).mono ?_
  rintro e w2 ⟨rfl, hb⟩
  have hb2 := hb1.trans (hb.mono hb1.size)
  clear hb1 hb
  go_wp2_with fail
  refine (awDay3 _).mono ?_
  rintro e w3 ⟨rfl, hb⟩
  have hb3 := hb2.trans (hb.mono hb2.size)
  clear hb2 hb
  go_wp2_with fail
  refine (awCycle _).mono ?_
  rintro e w4 ⟨rfl, hb⟩
  have hb4 := hb3.trans (hb.mono hb3.size)
  clear hb3 hb
  have hB4 := Blk.new w4 37 #[.int .i64 1209600, .int .i64 3888000]
  have hb5 := hb4.alloc hb4.size (.cells #[.int .i64 1209600, .int .i64 3888000] 37)
  have HB4 := Lib.hid hB4
  clear hB4
  go_wp2_with fail
  refine (awCycles _).mono ?_
  rintro e w5 ⟨g, c, rfl, hc, hg, d2, d3, hb⟩
  have hB5 := HB4.out.below hb (by simp)
  have hb6 := hb5.trans (hb.mono hb5.size)
  clear hb5 hb HB4
  have HC := Lib.hid (And.intro hg (And.intro d2 d3))
  have HB5 := Lib.hid hB5
  clear hg d2 d3 hB5
  go_wp2_with fail
  refine (awParse1 _).mono ?_
  rintro e w6 ⟨rfl, hb1⟩
  go_wp2_with fail
  refine (awParse2 _).mono ?_
  rintro e w7 ⟨rfl, hb2⟩
  go_wp2_with fail
  refine (awParse3 _).mono ?_
  rintro e w8 ⟨rfl, hb3⟩
  have hbA : Below w5.heap.size w5 w8 := hb1.trans ((hb2.mono hb1.size).trans (hb3.mono (Nat.le_trans hb1.size hb2.size)))
  have hbW : Below w.heap.size w w8 := hb6.trans (hbA.mono hb6.size)
  have hB8 := HB5.out.below hbA HB5.out.lt
  obtain ⟨hg, d2, d3⟩ := HC.out
  have e2 := (hbA.cell (p := ⟨g, 2, none⟩) hg).trans d2
  have e3 := (hbA.cell (p := ⟨g, 3, none⟩) hg).trans d3
  have c0 := hB8.cell 0
  have c1 := hB8.cell 1
  simp only [List.getElem?_toArray, List.getElem?_cons_zero, List.getElem?_cons_succ] at c0 c1
  have HT8 := Lib.hid (Tab.below HT.out hbW)
  clear hb1 hb2 hb3 hb6 hbA d2 d3 hB8 HC HB5 hg
  go_wp2_with (first
    | (go_at_call 16; (with_reducible refine (awWeek0 _).mono ?_); rintro e w9 ⟨rfl, rfl⟩)
    | (go_at_call 16; (with_reducible refine (awWeek2 _).mono ?_); rintro e w9 ⟨rfl, rfl⟩)
    | (go_at_call 19; (with_reducible refine (awPrint _ HT8.out).mono ?_); rintro e w9 ⟨rfl, hb9⟩))
  go_ret
  exact ⟨rfl, hbW.trans (hb9.mono hbW.size)⟩
end Go.Proofs.YtigohhliblgdhaaDoor
