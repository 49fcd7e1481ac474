/- Walk: the law on round trips. -/
import Derived.Test.YtigohhliblgdhaaDoorCalBackM
import Derived.Test.YtigohhliblgdhaaDoorLawKit
import Derived.Deep.Cut
namespace Go.Proofs.YtigohhliblgdhaaDoor
open Go.RowKit

/-- The law's last part: the text. -/
theorem wk_next {n : Int} (h : 0 ≤ n) (h2 : n + 1 < 146097) : wkI (n + 1) = (wkI n + 1) % 7 ∧ 0 ≤ wkI n ∧ wkI n ≤ 6 := by
  unfold wkI
  rw [if_pos ⟨by omega, h2⟩, if_pos ⟨h, by omega⟩]
  omega
set_option maxHeartbeats 8000000 in
theorem walkCalendarBack (n y m d : Int) (s : ByteArray) (w : World) (wn : (Lit.int .i64 n).wf = true) (ws : s.size ≤ maxLen) (ht : Tab w) :
    Calls Tryd.prog 5 #[.int .i64 n, .agg #[.int .i64 y, .int .i64 m, .int .i64 d], .string s] w fun e w' => e = .returned (.bool true) ∧ Below w.heap.size w w' := by
  obtain ⟨w0, hw0⟩ : ∃ w0, w.alloc (.cells #[.int .i64 y, .int .i64 m, .int .i64 d] 23) = w0 := ⟨_, rfl⟩
  have hbase : Below w.heap.size w w0 := by rw [← hw0]; exact (Below.refl _ w).alloc (Nat.le_refl _) _
  obtain ⟨hg, hc0, hc1, hc2⟩ : Dat w0 w.heap.size y m d := by rw [← hw0]; exact Dat.new w y m d
  have HT := Lib.hid (ht.below hbase)
  have HBase := Lib.hid hbase
  have HA := Lib.hid (fun w t => awake_any w t)
  have hnb := i64_bounds wn
  clear ht hbase wn
  -- the date
  have E1 := Lib.hid (fun w => day_any y m d w)
  obtain ⟨a, b, ha, hb, E2⟩ : ∃ a b : Int, dayV y m d = a ∧ dayE y m d = b ∧ (b = 6 ∨ (b = 0 ∧ ∀ w, Calls Tryd.prog 14 #[.int .i64 a] w fun e w' => e = .returned (.agg #[.int .i64 y, .int .i64 m, .int .i64 d]) ∧ Below w.heap.size w w')) := by
    cases h : okD y m d
    · exact ⟨_, _, rfl, rfl, .inl (day_bad h).2⟩
    · refine ⟨_, _, rfl, rfl, .inr ⟨(day_good h).2, fun w => ?_⟩⟩
      have := date_any (dayV y m d) w
      rwa [(day_good h).1, date_back h, ← (day_good h).1] at this
  rw [ha, hb] at E1
  clear ha hb
  -- the text
  have F1 := Lib.hid (fun w => parse_any s w ws)
  have F2 : (parE s.data.toList = 0 ∧ ∀ w, Tab w → Calls Tryd.prog 19 #[.int .i64 (parV s.data.toList)] w fun e w' => e = .returned (.string s) ∧ Below w.heap.size w w') ∨ (parE s.data.toList == 0) = false := by
    by_cases h : parE s.data.toList = 0
    · refine .inl ⟨h, fun w t => ?_⟩
      have := print_any (parV s.data.toList) w t
      rwa [par_txt h, S_of] at this
    · exact .inr (by simpa using h)
  obtain ⟨p, hp⟩ : ∃ p, parV s.data.toList = p := ⟨_, rfl⟩
  obtain ⟨q, hq⟩ : ∃ q, parE s.data.toList = q := ⟨_, rfl⟩
  rw [hp] at F1 F2
  rw [hq] at F1 F2
  clear hp hq ws
  have hgd := guardDate
  have hneq := neqDate_same y m d
  -- the day
  have hday : (0 ≤ n ∧ n < 146097) ∨ ¬ 0 ≤ n ∨ (0 ≤ n ∧ ¬ n < 146097) := by omega
  rcases hday with ⟨k1, k2⟩ | hno
  · have D1 := Lib.hid (fun w => date_in n w k1 k2)
    have D2 := Lib.hid (fun w => day_any (yrI n) (moI n) (dyI n) w)
    rw [(day_of_date k1 k2).1, (day_of_date k1 k2).2] at D2
    have D3 := Lib.hid (fun w t => print_in n w k1 k2 t)
    have D4 := Lib.hid (fun w => parse_any (S (datT (yrI n) (moI n) (dyI n))) w (by rw [S_size, datT_length]; decide))
    rw [S_toList, (par_back k1 k2).1, (par_back k1 k2).2] at D4
    have D5 := Lib.hid (fun w => weekday_any n w)
    have D6 := Lib.hid (fun w => weekday_any (n + 1) w)
    generalize S (datT (yrI n) (moI n) (dyI n)) = T at *
    generalize yrI n = y' at *
    generalize moI n = m' at *
    generalize dyI n = d' at *
    have hwk : n + 1 < 146097 → wkI (n + 1) = (wkI n + 1) % 7 ∧ 0 ≤ wkI n ∧ wkI n ≤ 6 := fun h => wk_next k1 h
    have hnx : (n + 1 < 146097 ∧ wkI (n + 1) = (wkI n + 1) % 7 ∧ 0 ≤ wkI n ∧ wkI n ≤ 6) ∨ ¬ n + 1 < 146097 := by
      by_cases h : n + 1 < 146097
      · exact .inl ⟨h, hwk h⟩
      · exact .inr h
    clear hwk
    generalize wkI (n + 1) = g1 at *
    generalize wkI n = g0 at *
    rcases hnx with ⟨n1, n2, n3, n4⟩ | n1
    case' inl => (have n5 : (g0 + 1) % 7 = g1 := n2.symm; clear n2)
    all_goals
      have hb := Below.refl w0.heap.size w0
      have hcc := trivial
      go_enter Tryd.func5, Tryd.ntmps5
      go_upto_region 9 with (first
        | (go_at_call 14; (with_reducible refine (since D1.out hb).mono ?_); clear hb hcc; rintro e w1 ⟨rfl, hb⟩; have hcc := (bcell hb).1)
        | (go_at_call 9; (with_reducible refine (since D2.out hb).mono ?_); clear hb hcc; rintro e w1 ⟨rfl, hb⟩; have hcc := (bcell hb).1)
        | (go_at_call 19; (with_reducible refine (sinceT D3.out HT.out hb).mono ?_); clear hb hcc; rintro e w1 ⟨rfl, hb⟩; have hcc := (bcell hb).1)
        | (go_at_call 18; (with_reducible refine (since D4.out hb).mono ?_); clear hb hcc; rintro e w1 ⟨rfl, hb⟩; have hcc := (bcell hb).1)
        | (go_at_call 16; (with_reducible refine (sinceQ D5.out hb).mono ?_); clear hb hcc; rintro e w1 ⟨rfl, hb⟩; have hcc := (bcell hb).1)
        | (go_at_call 16; (with_reducible refine (sinceQ D6.out hb).mono ?_); clear hb hcc; rintro e w1 ⟨rfl, hb⟩; have hcc := (bcell hb).1)
        | (go_at_call 9; (with_reducible refine (since E1.out hb).mono ?_); clear hb hcc; rintro e w1 ⟨rfl, hb⟩; have hcc := (bcell hb).1))
      have hD := Dat.below ⟨hg, hc0, hc1, hc2⟩ hb
      have HD9 := Lib.hid hD
      obtain ⟨_, i0, i1, i2⟩ := hD
      clear hcc
      rcases E2 with rfl | ⟨rfl, e2⟩
      · have hbq := Lib.hid (fun n => below_drewN hb n)
        go_quiet (fail)
        have hcc := trivial
        clear i0 i1 i2
        rcases F2 with ⟨rfl, f3⟩ | hq
        · have F3 := Lib.hid f3
          clear f3
          go_wp2_with (first | (go_at_call 18; (with_reducible refine (since F1.out (hbq.out _)).mono ?_); clear hb hcc; rintro e w1 ⟨rfl, hb⟩; have hcc := (bcell hb).1) | (go_at_call 19; (with_reducible refine (sinceT F3.out HT.out hb).mono ?_); clear hb hcc; rintro e w1 ⟨rfl, hb⟩; have hcc := (bcell hb).1) | (go_at_call 13; (with_reducible refine (sinceT HA.out HT.out hb).mono ?_); clear hb hcc; rintro e w1 ⟨rfl, hb⟩; have hcc := (bcell hb).1))
          go_ret
          exact ⟨rfl, HBase.out.trans (hb.mono HBase.out.size)⟩
        · have hq2 : (q != 0) = true := by simpa using hq
          go_wp2_with (first | (go_at_call 18; (with_reducible refine (since F1.out (hbq.out _)).mono ?_); clear hb hcc; rintro e w1 ⟨rfl, hb⟩; have hcc := (bcell hb).1) | (go_at_call 13; (with_reducible refine (sinceT HA.out HT.out hb).mono ?_); clear hb hcc; rintro e w1 ⟨rfl, hb⟩; have hcc := (bcell hb).1))
          go_ret
          exact ⟨rfl, HBase.out.trans (hb.mono HBase.out.size)⟩
      · have E3 := Lib.hid e2
        clear e2
        replace hb := Below.drew hb
        go_region_held3 (fun w' => w'.cell? ⟨w.heap.size, 0, none⟩ = some (.int .i64 y) ∧ w'.cell? ⟨w.heap.size, 1, none⟩ = some (.int .i64 m) ∧ w'.cell? ⟨w.heap.size, 2, none⟩ = some (.int .i64 d)) (go_keep)
          (first | (go_at_call 14; (with_reducible refine (since E3.out hb).mono ?_); clear hb; rintro e w2 ⟨rfl, hb⟩; obtain ⟨_, j0, j1, j2⟩ := Dat.below ⟨hg, hc0, hc1, hc2⟩ hb))
        have hcc := trivial
        clear i0 i1 i2 j0 j1 j2
        rcases F2 with ⟨rfl, f3⟩ | hq
        · have F3 := Lib.hid f3
          clear f3
          go_wp2_with (first | (go_at_call 18; (with_reducible refine (since F1.out hb).mono ?_); clear hb hcc; rintro e w1 ⟨rfl, hb⟩; have hcc := (bcell hb).1) | (go_at_call 19; (with_reducible refine (sinceT F3.out HT.out hb).mono ?_); clear hb hcc; rintro e w1 ⟨rfl, hb⟩; have hcc := (bcell hb).1) | (go_at_call 13; (with_reducible refine (sinceT HA.out HT.out hb).mono ?_); clear hb hcc; rintro e w1 ⟨rfl, hb⟩; have hcc := (bcell hb).1))
          go_ret
          exact ⟨rfl, HBase.out.trans (hb.mono HBase.out.size)⟩
        · have hq2 : (q != 0) = true := by simpa using hq
          go_wp2_with (first | (go_at_call 18; (with_reducible refine (since F1.out hb).mono ?_); clear hb hcc; rintro e w1 ⟨rfl, hb⟩; have hcc := (bcell hb).1) | (go_at_call 13; (with_reducible refine (sinceT HA.out HT.out hb).mono ?_); clear hb hcc; rintro e w1 ⟨rfl, hb⟩; have hcc := (bcell hb).1))
          go_ret
          exact ⟨rfl, HBase.out.trans (hb.mono HBase.out.size)⟩
  · rcases hno with k1 | ⟨k1, k2⟩
    case' inl => (have d1 : decide (0 ≤ n) = false := decide_eq_false k1; clear k1)
    case' inr => (have d1 : decide (0 ≤ n) = true := decide_eq_true k1; have d2 : decide (n < 146097) = false := decide_eq_false k2; clear k1 k2)
    all_goals
      have hb := Below.refl w0.heap.size w0
      have hcc := trivial
      go_enter Tryd.func5, Tryd.ntmps5
      go_upto_region 9 with (go_at_call 9; (with_reducible refine (since E1.out hb).mono ?_); clear hb hcc; rintro e w1 ⟨rfl, hb⟩; have hcc := (bcell hb).1)
      have hD := Dat.below ⟨hg, hc0, hc1, hc2⟩ hb
      have HD9 := Lib.hid hD
      obtain ⟨_, i0, i1, i2⟩ := hD
      clear hcc
      rcases E2 with rfl | ⟨rfl, e2⟩
      · have hbq := Lib.hid (fun n => below_drewN hb n)
        go_quiet (fail)
        have hcc := trivial
        clear i0 i1 i2
        rcases F2 with ⟨rfl, f3⟩ | hq
        · have F3 := Lib.hid f3
          clear f3
          go_wp2_with (first | (go_at_call 18; (with_reducible refine (since F1.out (hbq.out _)).mono ?_); clear hb hcc; rintro e w1 ⟨rfl, hb⟩; have hcc := (bcell hb).1) | (go_at_call 19; (with_reducible refine (sinceT F3.out HT.out hb).mono ?_); clear hb hcc; rintro e w1 ⟨rfl, hb⟩; have hcc := (bcell hb).1) | (go_at_call 13; (with_reducible refine (sinceT HA.out HT.out hb).mono ?_); clear hb hcc; rintro e w1 ⟨rfl, hb⟩; have hcc := (bcell hb).1))
          go_ret
          exact ⟨rfl, HBase.out.trans (hb.mono HBase.out.size)⟩
        · have hq2 : (q != 0) = true := by simpa using hq
          go_wp2_with (first | (go_at_call 18; (with_reducible refine (since F1.out (hbq.out _)).mono ?_); clear hb hcc; rintro e w1 ⟨rfl, hb⟩; have hcc := (bcell hb).1) | (go_at_call 13; (with_reducible refine (sinceT HA.out HT.out hb).mono ?_); clear hb hcc; rintro e w1 ⟨rfl, hb⟩; have hcc := (bcell hb).1))
          go_ret
          exact ⟨rfl, HBase.out.trans (hb.mono HBase.out.size)⟩
      · have E3 := Lib.hid e2
        clear e2
        replace hb := Below.drew hb
        go_region_held3 (fun w' => w'.cell? ⟨w.heap.size, 0, none⟩ = some (.int .i64 y) ∧ w'.cell? ⟨w.heap.size, 1, none⟩ = some (.int .i64 m) ∧ w'.cell? ⟨w.heap.size, 2, none⟩ = some (.int .i64 d)) (go_keep)
          (first | (go_at_call 14; (with_reducible refine (since E3.out hb).mono ?_); clear hb; rintro e w2 ⟨rfl, hb⟩; obtain ⟨_, j0, j1, j2⟩ := Dat.below ⟨hg, hc0, hc1, hc2⟩ hb))
        have hcc := trivial
        clear i0 i1 i2 j0 j1 j2
        rcases F2 with ⟨rfl, f3⟩ | hq
        · have F3 := Lib.hid f3
          clear f3
          go_wp2_with (first | (go_at_call 18; (with_reducible refine (since F1.out hb).mono ?_); clear hb hcc; rintro e w1 ⟨rfl, hb⟩; have hcc := (bcell hb).1) | (go_at_call 19; (with_reducible refine (sinceT F3.out HT.out hb).mono ?_); clear hb hcc; rintro e w1 ⟨rfl, hb⟩; have hcc := (bcell hb).1) | (go_at_call 13; (with_reducible refine (sinceT HA.out HT.out hb).mono ?_); clear hb hcc; rintro e w1 ⟨rfl, hb⟩; have hcc := (bcell hb).1))
          go_ret
          exact ⟨rfl, HBase.out.trans (hb.mono HBase.out.size)⟩
        · have hq2 : (q != 0) = true := by simpa using hq
          go_wp2_with (first | (go_at_call 18; (with_reducible refine (since F1.out hb).mono ?_); clear hb hcc; rintro e w1 ⟨rfl, hb⟩; have hcc := (bcell hb).1) | (go_at_call 13; (with_reducible refine (sinceT HA.out HT.out hb).mono ?_); clear hb hcc; rintro e w1 ⟨rfl, hb⟩; have hcc := (bcell hb).1))
          go_ret
          exact ⟨rfl, HBase.out.trans (hb.mono HBase.out.size)⟩
end Go.Proofs.YtigohhliblgdhaaDoor
