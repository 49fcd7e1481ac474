/- Walk of the program: the canonical list of the instants of two lists for which a condition holds (Cover). -/
import Derived.Test.YtigohhliblgdhaaIvCmb
namespace Go.Proofs.Ytigohhliblgdhaa
open Go.RowKit

set_option maxRecDepth 100000 in
set_option maxHeartbeats 8000000 in
theorem combine_Cover (A B : Option Addr) (m n c c' : Nat) (la lb : List Pd) (w : World) (hA : PR w A la) (hB : PR w B lb) (hm : la.length = m) (hn : lb.length = n) (hmc : m ≤ c) (hnc : n ≤ c') (h5 : m + n ≤ 1000) :
    Calls Try.prog 33 #[.slice A m c, .slice B n c', .func (.func 34) #[] #[]] w (CanOut fCover la lb w) := by
  obtain ⟨i0, hi0, hz0, hz1, hz2⟩ := info_parts periodInfo
  have HCL := Lib.hid clo_Cover
  generalize hF : fCover = f at *
  clear hF
  have hB0 : Blk (w.alloc (.cells #[.slice A m c, .slice B n c'] 31)) w.heap.size 31 #[.slice A m c, .slice B n c'] := Blk.new w _ _
  have hbe : Below w.heap.size w (w.alloc (.cells #[.slice A m c, .slice B n c'] 31)) := (Below.refl _ w).alloc (Nat.le_refl _) _
  have HS := Lib.hid (sorted_any w.heap.size A B m n c c' la lb _ hB0.lt hB0.two.1 hB0.two.2 (hA.below hbe) (hB.below hbe) hm hn hmc hnc h5)
  have HLE : Hid ((egs 0 la ++ egs 1 lb).length ≤ 2000) := Lib.hid (by have a1 := egs_length 0 la; have a2 := egs_length 1 lb; rw [List.length_append]; omega)
  clear hA hB hB0 hbe hm hn
  go_enter Try.func33, Try.ntmps33
  go_wp2_with fail
  refine HS.out.mono ?_
  rintro e w1 ⟨E, R, r, rfl, hr, hER, hPM, hSR, hb1⟩
  have hb : Below w.heap.size w w1 := ((Below.refl _ w).alloc (Nat.le_refl _) _).trans (hb1.mono (by simp))
  have hlen : E.length ≤ 2000 := by rw [hPM.length_eq]; exact HLE.out
  have HER := Lib.hid hER; have HPM := Lib.hid hPM; have HSR := Lib.hid hSR
  have HB := Lib.hid hb
  obtain ⟨N, hN⟩ : ∃ N, E.length = N := ⟨_, rfl⟩
  have HN := Lib.hid hN
  rw [hN] at hlen hr ⊢
  have hws := hb.size
  clear hER hPM hSR hb1 hN hb HS
  go_wp2
  go_loopw [8, 10, 11, 21] (fun v fr ins i wr => ∃ (k : Nat) (s : Sc), k ≤ N ∧ i = .int .i64 k ∧ fr = .int .i64 s.fr ∧ ins = .bool s.ins ∧ s.out.length ≤ k ∧ -(k : Int) ≤ s.oa ∧ s.oa ≤ k ∧ -(k : Int) ≤ s.ob ∧ s.ob ≤ k ∧
    wr.ownsRow (w1.heap.size + 1) 23 2 v s.out.length (cl s.out) ∧ Below w1.heap.size w1 wr ∧ Blk wr w1.heap.size 52 #[.int .i64 s.oa, .int .i64 s.ob] ∧ Hid (scn f ⟨0, 0, 0, false, []⟩ E = scn f s (E.drop k))) (fun _ _ _ i _ => N - (intOf i).toNat)
  case atStart => exact ⟨0, ⟨0, 0, 0, false, []⟩, by omega, rfl, rfl, rfl, by simp, by simp, by simp, by simp, by simp, World.ownsRow_nil _ _ _ _, (Below.refl _ _).alloc (Nat.le_refl _) _, Blk.new _ _ _, Lib.hid rfl⟩
  case round =>
    obtain ⟨k, ⟨oa, ob, fr, ins, out⟩, hk, rfl, rfl, rfl, ho, ha1, ha2, hb1, hb2, hown, hbr, hBK, HE⟩ := hrel
    simp only at ho ha1 ha2 hb1 hb2 hown hBK
    have hs := hbr.size
    have hs2 := hBK.lt
    by_cases hlt : k < N
    · obtain ⟨bk, rfl, hbl, d0, d1, d2⟩ := HER.out k (by rw [HN.out]; exact hlt)
      obtain ⟨a, li, ch, hE, hli, hc1, hc2⟩ := egs_two HPM.out k (by rw [HN.out]; exact hlt)
      have HED := Lib.hid (E_at (show k < E.length by rw [HN.out]; exact hlt))
      rw [hE] at d0 d1 d2 HED
      simp only at d0 d1 d2
      have e0 := (hbr.cell (p := ⟨bk, k * 3, none⟩) hbl).trans d0
      have e1 := (hbr.cell (p := ⟨bk, k * 3 + 1, none⟩) hbl).trans d1
      have e2 := (hbr.cell (p := ⟨bk, k * 3 + 2, none⟩) hbl).trans d2
      have hlt' : (k : Int) < (N : Int) := by omega
      have h0' : (0 : Int) ≤ (k : Int) := by omega
      clear d0 d1 d2 hE
      obtain ⟨c0, c1⟩ := hBK.two
      have f0 := hBK.frozen 0
      have f1 := hBK.frozen 1
      rcases hli with rfl | rfl
      case' inl =>
        go_wp2_with fail
        go_region
        have hbq : Below w1.heap.size w1 ((wr.setCell ⟨w1.heap.size, 0, none⟩ (.int .i64 (oa + ch))).alloc (.cells #[.int .i64 a, .int .i64 0, .int .i64 ch] 54)).drew := ((hbr.setCell (by simp) _).alloc (by simp; exact hs) _).drew
        have hoq : ((wr.setCell ⟨w1.heap.size, 0, none⟩ (.int .i64 (oa + ch))).alloc (.cells #[.int .i64 a, .int .i64 0, .int .i64 ch] 54)).drew.ownsRow (w1.heap.size + 1) 23 2 u8 out.length (cl out) := own_drew ((own_far hown (by simp) _).alloc _) 1
        have hBq : Blk ((wr.setCell ⟨w1.heap.size, 0, none⟩ (.int .i64 (oa + ch))).alloc (.cells #[.int .i64 a, .int .i64 0, .int .i64 ch] 54)).drew w1.heap.size 52 #[.int .i64 (oa + ch), .int .i64 (ob)] := ((hBK.set_ 0 _).alloc _).drew
        have hVq : Blk ((wr.setCell ⟨w1.heap.size, 0, none⟩ (.int .i64 (oa + ch))).alloc (.cells #[.int .i64 a, .int .i64 0, .int .i64 ch] 54)).drew wr.heap.size 54 #[.int .i64 a, .int .i64 0, .int .i64 ch] := by
          have := Blk.new (wr.setCell ⟨w1.heap.size, 0, none⟩ (.int .i64 (oa + ch))) 54 #[.int .i64 a, .int .i64 0, .int .i64 ch]
          simpa using this.drew
        have ha1' : -((k : Int) + 1) ≤ oa + ch := by omega
        have ha2' : oa + ch ≤ (k : Int) + 1 := by omega
        have hb1' : -((k : Int) + 1) ≤ ob := by omega
        have hb2' : ob ≤ (k : Int) + 1 := by omega
        clear e0 e1 e2 c0 c1 f0 f1 hBK hown hbr
        generalize ((wr.setCell ⟨w1.heap.size, 0, none⟩ (.int .i64 (oa + ch))).alloc (.cells #[.int .i64 a, .int .i64 0, .int .i64 ch] 54)).drew = wq at *
        obtain ⟨oa2, hoa2⟩ : ∃ x, oa + ch = x := ⟨_, rfl⟩
        obtain ⟨ob2, hob2⟩ : ∃ x, ob = x := ⟨_, rfl⟩
        have HA2 : Hid ((if (0 : Int) = 0 then oa + ch else oa) = oa2) := Lib.hid (by rw [← hoa2]; simp)
        have HB2 : Hid ((if (0 : Int) = 1 then ob + ch else ob) = ob2) := Lib.hid (by rw [← hob2]; simp)
        rw [hoa2] at ha1' ha2' hBq
        rw [hob2] at hb1' hb2' hBq
        clear hoa2 hob2 ha1 ha2 hb1 hb2
      case' inr =>
        go_wp2_with fail
        go_region
        have hbq : Below w1.heap.size w1 ((wr.setCell ⟨w1.heap.size, 1, none⟩ (.int .i64 (ob + ch))).alloc (.cells #[.int .i64 a, .int .i64 1, .int .i64 ch] 54)).drew := ((hbr.setCell (by simp) _).alloc (by simp; exact hs) _).drew
        have hoq : ((wr.setCell ⟨w1.heap.size, 1, none⟩ (.int .i64 (ob + ch))).alloc (.cells #[.int .i64 a, .int .i64 1, .int .i64 ch] 54)).drew.ownsRow (w1.heap.size + 1) 23 2 u8 out.length (cl out) := own_drew ((own_far hown (by simp) _).alloc _) 1
        have hBq : Blk ((wr.setCell ⟨w1.heap.size, 1, none⟩ (.int .i64 (ob + ch))).alloc (.cells #[.int .i64 a, .int .i64 1, .int .i64 ch] 54)).drew w1.heap.size 52 #[.int .i64 (oa), .int .i64 (ob + ch)] := ((hBK.set_ 1 _).alloc _).drew
        have hVq : Blk ((wr.setCell ⟨w1.heap.size, 1, none⟩ (.int .i64 (ob + ch))).alloc (.cells #[.int .i64 a, .int .i64 1, .int .i64 ch] 54)).drew wr.heap.size 54 #[.int .i64 a, .int .i64 1, .int .i64 ch] := by
          have := Blk.new (wr.setCell ⟨w1.heap.size, 1, none⟩ (.int .i64 (ob + ch))) 54 #[.int .i64 a, .int .i64 1, .int .i64 ch]
          simpa using this.drew
        have ha1' : -((k : Int) + 1) ≤ oa := by omega
        have ha2' : oa ≤ (k : Int) + 1 := by omega
        have hb1' : -((k : Int) + 1) ≤ ob + ch := by omega
        have hb2' : ob + ch ≤ (k : Int) + 1 := by omega
        clear e0 e1 e2 c0 c1 f0 f1 hBK hown hbr
        generalize ((wr.setCell ⟨w1.heap.size, 1, none⟩ (.int .i64 (ob + ch))).alloc (.cells #[.int .i64 a, .int .i64 1, .int .i64 ch] 54)).drew = wq at *
        obtain ⟨oa2, hoa2⟩ : ∃ x, oa = x := ⟨_, rfl⟩
        obtain ⟨ob2, hob2⟩ : ∃ x, ob + ch = x := ⟨_, rfl⟩
        have HA2 : Hid ((if (1 : Int) = 0 then oa + ch else oa) = oa2) := Lib.hid (by rw [← hoa2]; simp)
        have HB2 : Hid ((if (1 : Int) = 1 then ob + ch else ob) = ob2) := Lib.hid (by rw [← hob2]; simp)
        rw [hoa2] at ha1' ha2' hBq
        rw [hob2] at hb1' hb2' hBq
        clear hoa2 hob2 ha1 ha2 hb1 hb2
      all_goals
        have hsq := hbq.size
        have hsB := hBq.lt
        obtain ⟨c0, c1⟩ := hBq.two
        have v0 := hVq.cell 0
        simp only [List.getElem?_toArray, List.getElem?_cons_zero] at v0
        have HI0 := Lib.hid (fun v h W => clo_is HCL.out (decide (0 < oa2)) (decide (0 < ob2)) v h W)
        have HS := Lib.hid (fun nx h => (HE.out.trans (by rw [HED.out]; exact congrArg (fun b => scn f (stp f ⟨oa, ob, fr, ins, out⟩ (a, _, ch) b) (E.drop (k + 1))) h) : scn f ⟨0, 0, 0, false, []⟩ E = scn f (stp f ⟨oa, ob, fr, ins, out⟩ (a, _, ch) nx) (E.drop (k + 1))))
        have hnx : (∃ a2, k + 1 < N ∧ wq.cell? ⟨bk, (k + 1) * 3, none⟩ = some (.int .i64 a2) ∧ (a2 == a) = true ∧ Hid (at1 a (E.drop (k + 1)) = true)) ∨ (∃ a2, k + 1 < N ∧ wq.cell? ⟨bk, (k + 1) * 3, none⟩ = some (.int .i64 a2) ∧ (a2 == a) = false ∧ Hid (at1 a (E.drop (k + 1)) = false)) ∨ (¬ k + 1 < N ∧ Hid (at1 a (E.drop (k + 1)) = false)) := by
          by_cases h : k + 1 < N
          · obtain ⟨bk', hbe, hbl', g0, _, _⟩ := HER.out (k + 1) (by rw [HN.out]; exact h)
            obtain rfl : bk = bk' := by injection hbe with h; injection h
            have h1 := (hbq.cell (p := ⟨bk, (k + 1) * 3, none⟩) hbl).trans g0
            have h2 := at1_drop a (show k + 1 < E.length by rw [HN.out]; exact h)
            generalize (E.getD (k + 1) (0, 0, 0)).1 = a2 at *
            by_cases he : a2 = a
            · exact .inl ⟨a2, h, h1, by simp [he], Lib.hid (by rw [h2]; simp [he])⟩
            · exact .inr (.inl ⟨a2, h, h1, by simp [he], Lib.hid (by rw [h2]; simp [he])⟩)
          · exact .inr (.inr ⟨h, Lib.hid (at1_end a (by rw [HN.out]; exact h))⟩)
        have wrk : IntKind.i64.wrap ((k : Int) + 1) = (k : Int) + 1 := IntWalk.i64_in _ (by omega)
        have h01 : (0 : Int) ≤ (k : Int) + 1 := by omega
        rcases hnx with ⟨a2, hk1, g0, hq, HX⟩ | ⟨a2, hk1, g0, hq, HX⟩ | ⟨hk1, HX⟩
        case' inl =>
          have hk1' : decide ((k : Int) + 1 < (N : Int)) = true := decide_eq_true (by omega)
          have hk2' : (k : Int) + 1 < (N : Int) := by omega
          have HS2 : Hid (scn f ⟨0, 0, 0, false, []⟩ E = scn f ⟨oa2, ob2, fr, ins, out⟩ (E.drop (k + 1))) := Lib.hid (by rw [HS.out _ HX.out, stp_next HA2.out HB2.out])
          go_wp2_with fail
          go_quiet (fail)
          go_wp2_with fail
          go_roundw
          case rel => exact ⟨k + 1, ⟨oa2, ob2, fr, ins, out⟩, by omega, by go_num, rfl, rfl, by simp; omega, by simp; omega, by simp; omega, by simp; omega, by simp; omega, own_drew hoq _, below_drewN hbq _, hBq.drewN _, HS2⟩
          case measure => simp [intOf]; omega
        case' inr.inl =>
          have hk1' : decide ((k : Int) + 1 < (N : Int)) = true := decide_eq_true (by omega)
          have hk2' : (k : Int) + 1 < (N : Int) := by omega
        case' inr.inr =>
          have hk1' : decide ((k : Int) + 1 < (N : Int)) = false := decide_eq_false (by omega)
        all_goals
          have HS2 := Lib.hid (HS.out _ HX.out)
          cases hi : f (decide (0 < oa2)) (decide (0 < ob2))
          all_goals
            have HI := Lib.hid (HI0.out _ hi)
            have HV := Lib.hid hi
            clear hi HI0
          · cases ins
            · have HS3 := Lib.hid (HS2.out.trans (congrArg (fun x => scn f x (E.drop (k + 1))) (stp_same HA2.out HB2.out HV.out rfl)))
              go_wp2_with fail
              go_quiet (fail)
              go_wp2_with (first | (go_at_call 34; (with_reducible refine (HI.out _).mono ?_); rintro e w5 ⟨rfl, rfl⟩))
              go_roundw
              case rel => exact ⟨k + 1, _, by omega, by go_num, rfl, rfl, by simp; omega, by simp; omega, by simp; omega, by simp; omega, by simp; omega, own_drew hoq _, below_drewN hbq _, hBq.drewN _, HS3⟩
              case measure => simp [intOf]; omega
            · have HS3 := Lib.hid (HS2.out.trans (congrArg (fun x => scn f x (E.drop (k + 1))) (stp_out HA2.out HB2.out HV.out rfl)))
              go_wp2_with fail
              go_quiet (fail)
              go_wp2_with (first | (go_at_call 34; (with_reducible refine (HI.out _).mono ?_); rintro e w5 ⟨rfl, rfl⟩) | (at_builtin; refine wpList_append_own _ rfl (.tmp 73) (.tmp 78) 31 rfl (w1.heap.size + 1) 23 i0 (.agg #[.int .i64 0, .int .i64 0]) 2 16 Try.underlying31 hi0 hz0 hz1 hz2 rfl (by decide) _ _ _ rfl (World.ownsRow.alloc (own_drew hoq _) _) ⟨wq.heap.size, 0, none⟩ 1 1 [.int .i64 fr, .int .i64 a] rfl rfl (cell_two_new' _ _ _ _) (by intro u hu; simp at hu; rcases hu with rfl | rfl <;> rfl) (by unfold maxLen; omega) (by omega) (by simp; omega) ?_; intro v4 w4 hown4 hg4 _))
              have hb5 : Below w1.heap.size w1 w4 := ((below_drewN hbq _).alloc (by simp; omega) _).grown hg4 (by simp; omega) (fun g hg' => by have := (World.ownsRow.lt hoq g hg').1; omega)
              have hB5 := ((hBq.drewN _).alloc (.cells #[.int .i64 fr, .int .i64 a] 23)).grown hg4 (own_not hoq (by omega))
              go_roundw
              case rel => exact ⟨k + 1, _, by omega, by go_num, rfl, rfl, by simp; omega, by simp; omega, by simp; omega, by simp; omega, by simp; omega, by rw [cl_append]; simpa [cl] using hown4, hb5, hB5, HS3⟩
              case measure => simp [intOf]; omega
          · cases ins
            · have HS3 := Lib.hid (HS2.out.trans (congrArg (fun x => scn f x (E.drop (k + 1))) (stp_in HA2.out HB2.out HV.out rfl)))
              go_wp2_with fail
              go_quiet (fail)
              go_wp2_with (first | (go_at_call 34; (with_reducible refine (HI.out _).mono ?_); rintro e w5 ⟨rfl, rfl⟩))
              go_roundw
              case rel => exact ⟨k + 1, _, by omega, by go_num, rfl, rfl, by simp; omega, by simp; omega, by simp; omega, by simp; omega, by simp; omega, own_drew hoq _, below_drewN hbq _, hBq.drewN _, HS3⟩
              case measure => simp [intOf]; omega
            · have HS3 := Lib.hid (HS2.out.trans (congrArg (fun x => scn f x (E.drop (k + 1))) (stp_same HA2.out HB2.out HV.out rfl)))
              go_wp2_with fail
              go_quiet (fail)
              go_wp2_with (first | (go_at_call 34; (with_reducible refine (HI.out _).mono ?_); rintro e w5 ⟨rfl, rfl⟩))
              go_roundw
              case rel => exact ⟨k + 1, _, by omega, by go_num, rfl, rfl, by simp; omega, by simp; omega, by simp; omega, by simp; omega, by simp; omega, own_drew hoq _, below_drewN hbq _, hBq.drewN _, HS3⟩
              case measure => simp [intOf]; omega
    · obtain rfl : k = N := by omega
      have HE2 : Hid ((scn f ⟨0, 0, 0, false, []⟩ E).out = out) := Lib.hid (by rw [HE.out, ← HN.out, List.drop_length]; rfl)
      go_wp2_with fail
      go_ret
      refine ⟨E, HPM.out, HSR.out, ?_⟩
      rw [HE2.out]
      obtain ⟨A', c2, e1, e2, _, e3⟩ := pr_own hown rfl
      exact ⟨A', c2, by simp [e1], e2, e3, HB.out.trans (hbr.mono hws)⟩
end Go.Proofs.Ytigohhliblgdhaa
