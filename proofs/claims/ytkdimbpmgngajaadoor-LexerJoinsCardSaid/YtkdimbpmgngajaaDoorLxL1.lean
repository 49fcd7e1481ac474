/- Walk of the law on texts that are put together. -/
import Derived.Test.YtkdimbpmgngajaaDoorLxJ2
namespace Go.Proofs.YtkdimbpmgngajaaDoor
open Go Go.Lib Go.RowKit Lx
set_option maxRecDepth 100000 in
set_option maxHeartbeats 16000000 in
theorem walkLexerJoins (s t : ByteArray) (w : World) (hs : s.size ≤ maxLen) (ht : t.size ≤ maxLen) :
    Calls Tryd.prog 5 #[.string s, .string t] w fun e w' => e = .returned (.bool true) ∧ Below w.heap.size w w' := by
  have hs9 := hs
  have ht9 := ht
  unfold maxLen at hs9 ht9
  by_cases hgo : s.size ≤ 2000 ∧ t.size ≤ 2000
  · obtain ⟨h1, h2⟩ := hgo
    have d1 : decide ((2000 : Int) < (s.size : Int)) = false := decide_eq_false (by omega)
    have d2 : decide ((2000 : Int) < (t.size : Int)) = false := decide_eq_false (by omega)
    have hsl : s.data.toList.length = s.size := by simp
    have htl : t.data.toList.length = t.size := by simp
    obtain ⟨J1, hJ1⟩ : ∃ J, s ++ ⟨#[10]⟩ = J := ⟨_, rfl⟩
    obtain ⟨J, hJ⟩ : ∃ J, J1 ++ t = J := ⟨_, rfl⟩
    have hJd : J.data.toList = s.data.toList ++ 10 :: t.data.toList := by rw [← hJ, ← hJ1]; simp
    have hJ1z : J1.size = s.size + 1 := by rw [← hJ1, ByteArray.size_append]; rfl
    have hJz : J.size = s.size + (t.size + 1) := by rw [← hJ, ByteArray.size_append, hJ1z]; omega
    have hJm : J.size ≤ maxLen := by unfold maxLen; omega
    have hz1 : (s.size : Int) + 1 ≤ 9223372036854775807 := by omega
    have hz2 : (J1.size : Int) + (t.size : Int) ≤ 9223372036854775807 := by omega
    cases hS : scn s.data.toList with
    | error y =>
      obtain ⟨m, e⟩ := y
      obtain ⟨-, he1⟩ := scn_err_at hS
      have hJs := join_err1 (t := t.data.toList) hS
      have HX1 := Lib.hid (fun W => scn_bad s W hs (by rw [scnP_small (by omega)]; exact hS) rfl)
      have HX3 := Lib.hid (fun W => scn_bad J W hJm (by rw [hJd, scnP_small (by rw [List.length_append, List.length_cons]; omega)]; exact hJs) rfl)
      have HX2 : Hid (∀ W, Calls Tryd.prog 10 #[.string t] W fun e w' => ∃ v p n, e = .returned (.tuple #[v, .int .i64 p, .int .i64 n]) ∧ Below W.heap.size W w') := Lib.hid (fun W => by
        cases hT : scn t.data.toList with
        | error y => exact (scn_bad t W ht (m := y.1) (n := y.2) (by rw [scnP_small (by omega)]; exact hT) rfl).mono (by rintro e w' ⟨rfl, hb⟩; exact ⟨_, _, _, rfl, hb⟩)
        | ok D => exact (scn_good t W ht (by rw [scnP_small (by omega)]; exact hT) rfl).mono (by rintro e w' ⟨A, c, rfl, -, -, -, hb⟩; exact ⟨_, _, _, rfl, hb⟩))
      have d3 : ((e : Int) == 0) = false := by rw [beq_eq_false_iff_ne]; omega
      have d4 : ((e : Int) != 0) = true := by rw [bne, d3]; rfl
      clear hS hJs hJd hs ht hJm
      go_enter Tryd.func5, Tryd.ntmps5
      go_wp2_with (first
        | (go_at_call 10; (with_reducible refine (HX1.out _).mono ?_); rintro e w1 ⟨rfl, hb1⟩; have HB1 := Lib.hid hb1; clear hb1)
        | (go_at_call 10; (with_reducible refine (HX2.out _).mono ?_); rintro e w2 ⟨v2, p2, n2, rfl, hb2⟩; have HB2 := Lib.hid (HB1.out.trans (hb2.mono HB1.out.size)); clear hb2)
        | (go_at_call 10; (with_reducible refine (HX3.out _).mono ?_); rintro e w3 ⟨rfl, hb3⟩; have HB3 := Lib.hid (HB2.out.trans (hb3.mono HB2.out.size)); clear hb3)
        | (go_at_call 9; (with_reducible refine (awake_any _).mono ?_); rintro e w4 ⟨rfl, hb4⟩; have HB4 := Lib.hid (HB3.out.trans (hb4.mono HB3.out.size)); clear hb4))
      go_ret
      exact ⟨rfl, HB4.out⟩
    | ok D =>
      obtain ⟨hDr, hD0, hDl⟩ := scn_ok_at hS
      cases hT : scn t.data.toList with
      | error y =>
        obtain ⟨m, e⟩ := y
        obtain ⟨hm, he1⟩ := scn_err_at hT
        have hJs := join_err2 hS hT
        obtain ⟨p, hp⟩ : ∃ p, t.size - m = p := ⟨_, rfl⟩
        obtain ⟨p3, hp3⟩ : ∃ p3, p + (s.size + 1) = p3 := ⟨_, rfl⟩
        obtain ⟨n, hn⟩ : ∃ n, D.length = n := ⟨_, rfl⟩
        have HX1 := Lib.hid (fun W => scn_good s W hs (by rw [scnP_small (by omega)]; exact hS) hn)
        have HX2 := Lib.hid (fun W => scn_bad t W ht (by rw [scnP_small (by omega)]; exact hT) hp)
        have HX3 := Lib.hid (fun W => scn_bad J W hJm (p := p3) (by rw [hJd, scnP_small (by rw [List.length_append, List.length_cons]; omega)]; exact hJs) (by omega))
        have d3 : ((e : Int) == 0) = false := by rw [beq_eq_false_iff_ne]; omega
        have d4 : ((e : Int) != 0) = true := by rw [bne, d3]; rfl
        have hp9 : (p : Int) + (s.size : Int) + 1 = (p3 : Int) := by omega
        have d5 : ((p3 : Int) == (p : Int) + (s.size : Int) + 1) = true := by rw [hp9]; simp
        have hpl : p ≤ 2000 := by omega
        clear hS hT hJs hJd hs ht hJm hDr
        go_enter Tryd.func5, Tryd.ntmps5
        go_wp2_with (first
          | (go_at_call 10; (with_reducible refine (HX1.out _).mono ?_); rintro e w1 ⟨A1, c1, rfl, -, -, -, hb1⟩; have HB1 := Lib.hid hb1; clear hb1)
          | (go_at_call 10; (with_reducible refine (HX2.out _).mono ?_); rintro e w2 ⟨rfl, hb2⟩; have HB2 := Lib.hid (HB1.out.trans (hb2.mono HB1.out.size)); clear hb2)
          | (go_at_call 10; (with_reducible refine (HX3.out _).mono ?_); rintro e w3 ⟨rfl, hb3⟩; have HB3 := Lib.hid (HB2.out.trans (hb3.mono HB2.out.size)); clear hb3)
          | (go_at_call 9; (with_reducible refine (awake_any _).mono ?_); rintro e w4 ⟨rfl, hb4⟩; have HB4 := Lib.hid (HB3.out.trans (hb4.mono HB3.out.size)); clear hb4))
        go_ret
        exact ⟨rfl, HB4.out⟩
      | ok E =>
        obtain ⟨hEr, hE0, hEl⟩ := scn_ok_at hT
        have hJs := join_ok hS hT
        obtain ⟨n, hn⟩ : ∃ n, D.length = n := ⟨_, rfl⟩
        obtain ⟨m, hm⟩ : ∃ m, E.length = m := ⟨_, rfl⟩
        obtain ⟨l, hl⟩ : ∃ l, n - 1 + m = l := ⟨_, rfl⟩
        have HX1 := Lib.hid (fun W => scn_good s W hs (by rw [scnP_small (by omega)]; exact hS) hn)
        have HX2 := Lib.hid (fun W => scn_good t W ht (by rw [scnP_small (by omega)]; exact hT) hm)
        have HX3 := Lib.hid (fun W => scn_good J W hJm (n := l) (by rw [hJd, scnP_small (by rw [List.length_append, List.length_cons]; omega)]; exact hJs) (by rw [List.length_append, List.length_map, List.length_dropLast]; omega))
        have HD := Lib.hid (And.intro hDr hn); have HE := Lib.hid (And.intro hEr hm); have HJZ := Lib.hid hJz; have HLN := Lib.hid (And.intro hsl htl)
        have hl1 : (1 : Int) ≤ (n : Int) := by omega
        have hlz : (n : Int) - 1 + (m : Int) = (l : Int) := by omega
        have d0 : decide ((n : Int) < 1) = false := decide_eq_false (by omega)
        have d5 : ((l : Int) == (n : Int) - 1 + (m : Int)) = true := by rw [hlz]; simp
        have d6 : ((l : Int) != (n : Int) - 1 + (m : Int)) = false := by rw [bne, d5]; rfl
        have hn2 : n ≤ 2001 := by omega
        have hm2 : m ≤ 2001 := by omega
        clear hS hT hJs hJd hs ht hJm hDr hEr hn hm hJz hsl htl hDl hEl hD0 hE0
        go_enter Tryd.func5, Tryd.ntmps5
        go_wp2_with (first
          | (go_at_call 10; (with_reducible refine (HX1.out _).mono ?_); rintro e w1 ⟨A1, c1, rfl, hc1, hm1, ht1, hb1⟩; have HB1 := Lib.hid hb1; have HT1 := Lib.hid ht1; clear hb1 ht1)
          | (go_at_call 10; (with_reducible refine (HX2.out _).mono ?_); rintro e w2 ⟨A2, c2, rfl, hc2, hm2', ht2, hb2⟩; have HB2 := Lib.hid (HB1.out.trans (hb2.mono HB1.out.size)); have HT12 := Lib.hid (HT1.out.below hb2); have HT2 := Lib.hid ht2; clear hb2 ht2)
          | (go_at_call 10; (with_reducible refine (HX3.out _).mono ?_); rintro e w3 ⟨A3, c3, rfl, hc3, hm3, ht3, hb3⟩; have HB3 := Lib.hid (HB2.out.trans (hb3.mono HB2.out.size)); have HT13 := Lib.hid (HT12.out.below hb3); have HT23 := Lib.hid (HT2.out.below hb3); have HT3 := Lib.hid ht3; clear hb3 ht3))
        clear hJ1 hJ
        go_loopw [14] (fun iv wr => ∃ i : Nat, iv = .int .i64 i ∧ i ≤ l ∧ Hid (Below w3.heap.size w3 wr)) (fun iv _ => l - (RowKit.intOf iv).toNat)
        case atStart => exact ⟨0, rfl, by omega, Lib.hid (Below.refl _ _)⟩
        case round =>
          obtain ⟨i, rfl, hi, HB⟩ := hrel
          by_cases hil : i < l
          · have hil' : (i : Int) < (l : Int) := by omega
            have hi0 : (0 : Int) ≤ (i : Int) := by omega
            by_cases hlo : i < n - 1
            · have e1 : (i : Int) < (n : Int) - 1 := by omega
              have hin : (i : Int) < (n : Int) := by omega
              obtain ⟨ba, rfl, hba, a0, a1, a2, a3⟩ := (HT13.out.below HB.out) i (by rw [HD.out.2]; omega)
              obtain ⟨bl, rfl, hbl, b0, b1, b2, b3⟩ := (HT3.out.below HB.out) i (by rw [List.length_append, List.length_map, List.length_dropLast, HD.out.2, HE.out.2]; omega)
              have hrem := HD.out.1 _ (getD_memT (D := D) (i := i) (by rw [HD.out.2]; omega))
              rw [getD_lo (by rw [HD.out.2]; exact hlo)] at b0 b1 b2 b3
              obtain ⟨x, hx⟩ : ∃ x, D.getD i tk0 = x := ⟨_, rfl⟩
              rw [hx] at a0 a1 a2 a3 b0 b1 b2 b3 hrem
              obtain ⟨k, rem, tx⟩ := x
              simp only [shf] at a0 a1 a2 a3 b0 b1 b2 b3 hrem
              obtain ⟨q, hq⟩ : ∃ q, s.size - rem = q := ⟨_, rfl⟩
              rw [show J.size - (rem + (t.data.toList.length + 1)) = q by rw [HJZ.out, HLN.out.2]; omega] at b2
              rw [hq] at a2
              obtain ⟨nv, hnv⟩ : ∃ nv, numV k tx = nv := ⟨_, rfl⟩
              rw [hnv] at a1 b1
              clear hx hq hnv hrem
              go_upto_region 20 with fail
              have hTK : TkB (wr.alloc (.cells #[.int .i64 k, .int .i64 nv, .int .i64 q, .string ⟨⟨tx⟩⟩] 30)) wr.heap.size k nv q ⟨⟨tx⟩⟩ := TkB.new wr _ _ _ _
              have hBW : Below wr.heap.size wr (wr.alloc (.cells #[.int .i64 k, .int .i64 nv, .int .i64 q, .string ⟨⟨tx⟩⟩] 30)) := below_one wr _
              have HBW := Lib.hid hBW
              generalize hW4 : World.alloc wr _ = W4 at hTK hBW HBW
              obtain ⟨⟨t0, t1, t2, t3⟩, -⟩ := hTK.cells
              have b0 := (hBW.cell (p := ⟨bl, i * 4, none⟩) hbl).trans b0
              have b1 := (hBW.cell (p := ⟨bl, i * 4 + 1, none⟩) hbl).trans b1
              have b2 := (hBW.cell (p := ⟨bl, i * 4 + 2, none⟩) hbl).trans b2
              have b3 := (hBW.cell (p := ⟨bl, i * 4 + 3, none⟩) hbl).trans b3
              have hnq := neqTk_same k nv q ⟨⟨tx⟩⟩
              have hgd := guardTk
              clear hTK hBW hW4 hbl hba
              go_quiet (fail)
              go_wp2_with fail
              go_roundw
              case rel => exact ⟨i + 1, by go_num, by omega, Lib.hid (HB.out.trans ((HBW.out.mono HB.out.size).trans (below_drewN (Below.refl _ _) _)))⟩
              case measure => simp [RowKit.intOf]; omega
            · have e1 : decide ((i : Int) < (n : Int) - 1) = false := decide_eq_false (by omega)
              obtain ⟨j, hj⟩ : ∃ j, i - (n - 1) = j := ⟨_, rfl⟩
              have hij : (i : Int) - (n : Int) + 1 = (j : Int) := by omega
              have hjm : (j : Int) < (m : Int) := by omega
              have hj0 : (0 : Int) ≤ (j : Int) := by omega
              obtain ⟨ba, rfl, hba, a0, a1, a2, a3⟩ := (HT23.out.below HB.out) j (by rw [HE.out.2]; omega)
              obtain ⟨bl, rfl, hbl, b0, b1, b2, b3⟩ := (HT3.out.below HB.out) i (by rw [List.length_append, List.length_map, List.length_dropLast, HD.out.2, HE.out.2]; omega)
              have hrem := HE.out.1 _ (getD_memT (D := E) (i := j) (by rw [HE.out.2]; omega))
              rw [getD_hi (by rw [HD.out.2]; omega), HD.out.2, hj] at b0 b1 b2 b3
              obtain ⟨x, hx⟩ : ∃ x, E.getD j tk0 = x := ⟨_, rfl⟩
              rw [hx] at a0 a1 a2 a3 b0 b1 b2 b3 hrem
              obtain ⟨k, rem, tx⟩ := x
              simp only at a0 a1 a2 a3 b0 b1 b2 b3 hrem
              obtain ⟨q0, hq0⟩ : ∃ q, t.size - rem = q := ⟨_, rfl⟩
              obtain ⟨q, hq⟩ : ∃ q, J.size - rem = q := ⟨_, rfl⟩
              rw [hq] at b2
              rw [hq0] at a2
              have hqq : (q0 : Int) + (s.size : Int) + 1 = (q : Int) := by have h5 := HJZ.out; have h6 := HLN.out.2; omega
              have hq9 : q0 ≤ 2000 := by omega
              obtain ⟨nv, hnv⟩ : ∃ nv, numV k tx = nv := ⟨_, rfl⟩
              rw [hnv] at a1 b1
              clear hx hq hq0 hnv hrem hj
              go_upto_region 20 with fail
              have hTK : TkB (wr.alloc (.cells #[.int .i64 k, .int .i64 nv, .int .i64 q, .string ⟨⟨tx⟩⟩] 30)) wr.heap.size k nv q ⟨⟨tx⟩⟩ := TkB.new wr _ _ _ _
              have hBW : Below wr.heap.size wr (wr.alloc (.cells #[.int .i64 k, .int .i64 nv, .int .i64 q, .string ⟨⟨tx⟩⟩] 30)) := below_one wr _
              have HBW := Lib.hid hBW
              generalize hW4 : World.alloc wr _ = W4 at hTK hBW HBW
              obtain ⟨⟨t0, t1, t2, t3⟩, -⟩ := hTK.cells
              have b0 := (hBW.cell (p := ⟨bl, i * 4, none⟩) hbl).trans b0
              have b1 := (hBW.cell (p := ⟨bl, i * 4 + 1, none⟩) hbl).trans b1
              have b2 := (hBW.cell (p := ⟨bl, i * 4 + 2, none⟩) hbl).trans b2
              have b3 := (hBW.cell (p := ⟨bl, i * 4 + 3, none⟩) hbl).trans b3
              have hnq := neqTk_same k nv q ⟨⟨tx⟩⟩
              have hgd := guardTk
              clear hTK hBW hW4 hbl hba
              go_quiet (fail)
              go_wp2_with fail
              go_roundw
              case rel => exact ⟨i + 1, by go_num, by omega, Lib.hid (HB.out.trans ((HBW.out.mono HB.out.size).trans (below_drewN (Below.refl _ _) _)))⟩
              case measure => simp [RowKit.intOf]; omega
          · obtain rfl : i = l := by omega
            have HBW := Lib.hid (HB3.out.trans (HB.out.mono HB3.out.size))
            go_wp2_with (go_at_call 9; (with_reducible refine (awake_any _).mono ?_); rintro e w4 ⟨rfl, hb4⟩; have HB4 := Lib.hid (HBW.out.trans (hb4.mono HBW.out.size)); clear hb4)
            go_ret
            exact ⟨rfl, HB4.out⟩
  · have hcs : decide ((2000 : Int) < (s.size : Int)) = true ∨ (decide ((2000 : Int) < (s.size : Int)) = false ∧ decide ((2000 : Int) < (t.size : Int)) = true) := by
      by_cases h1 : 2000 < s.size
      · exact .inl (decide_eq_true (by omega))
      · exact .inr ⟨decide_eq_false (by omega), decide_eq_true (by
          rcases Nat.lt_or_ge 2000 t.size with h | h
          · omega
          · exact absurd ⟨by omega, h⟩ hgo)⟩
    clear hgo hs ht
    rcases hcs with d1 | ⟨d1, d2⟩
    all_goals
      go_enter Tryd.func5, Tryd.ntmps5
      go_wp2_with (go_at_call 9; (with_reducible refine (awake_any _).mono ?_); rintro e w6 ⟨rfl, hb6⟩)
      go_ret
      exact ⟨rfl, hb6⟩
end Go.Proofs.YtkdimbpmgngajaaDoor
