/- Walk of the law on the places of tokens. -/
import Derived.Test.YtkdimbpmgngajaaDoorLxRs
namespace Go.Proofs.YtkdimbpmgngajaaDoor
open Go Go.Lib Go.RowKit Lx Go.Maps

namespace Lx
theorem drop_getD {D : List Tk} {i : Nat} (h : i < D.length) : D.drop i = D.getD i tk0 :: D.drop (i + 1) := by
  rw [List.drop_eq_getElem_cons h, List.getD_eq_getElem?_getD, List.getElem?_eq_getElem h]; rfl
theorem ext_is {s X : ByteArray} {q m : Nat} (hm : q + X.size = m) (hs : m ≤ s.size) (h : (s.data.toList.drop q).take X.data.toList.length = X.data.toList) : s.extract q m = X := by
  apply ba_ext
  rw [ext_list s q m hs, ← h]
  congr 1
  simp; omega
theorem below_d {a b c : World} {n : Nat} (h : Below a.heap.size a b) (k : Below (b.drewN n).heap.size (b.drewN n) c) : Below a.heap.size a c :=
  (below_drewN h n).trans (k.mono h.size)
/-- Where the next token is looked for: behind i tokens, or at the end. -/
def Nx (s : ByteArray) (D : List Tk) (n i a : Nat) : Prop := (i < n ∧ scn (s.data.toList.drop a) = .ok (D.drop i)) ∨ (i = n ∧ a = s.size)
end Lx
set_option maxRecDepth 100000 in
set_option maxHeartbeats 16000000 in
theorem walkLexerPlaces (s : ByteArray) (w : World) (hs : s.size ≤ maxLen) :
    Calls Tryd.prog 6 #[.string s] w fun e w' => e = .returned (.bool true) ∧ Below w.heap.size w w' := by
  have hs9 := hs
  unfold maxLen at hs9
  by_cases hbig : 2000 < s.size
  · have d1 : decide ((2000 : Int) < (s.size : Int)) = true := decide_eq_true (by omega)
    clear hs hbig
    go_enter Tryd.func6, Tryd.ntmps6
    go_wp2_with (go_at_call 9; (with_reducible refine (awake_any _).mono ?_); rintro e w6 ⟨rfl, hb6⟩)
    go_ret
    exact ⟨rfl, hb6⟩
  · have d1 : decide ((2000 : Int) < (s.size : Int)) = false := decide_eq_false (by omega)
    have hsl : s.data.toList.length = s.size := by simp
    have hs2 : s.size ≤ 2000 := by omega
    cases hS : scn s.data.toList with
    | error y =>
      obtain ⟨m, e⟩ := y
      obtain ⟨-, he1⟩ := scn_err_at hS
      have HX1 := Lib.hid (fun W => scn_bad s W hs (by rw [scnP_small (by omega)]; exact hS) rfl)
      have d4 : ((e : Int) != 0) = true := by rw [bne, show ((e : Int) == 0) = false by rw [beq_eq_false_iff_ne]; omega]; rfl
      clear hS hs hbig
      go_enter Tryd.func6, Tryd.ntmps6
      go_wp2_with (first
        | (go_at_call 10; (with_reducible refine (HX1.out _).mono ?_); rintro e w1 ⟨rfl, hb1⟩; have HB1 := Lib.hid hb1; clear hb1)
        | (go_at_call 9; (with_reducible refine (awake_any _).mono ?_); rintro e w4 ⟨rfl, hb4⟩; have HB4 := Lib.hid (HB1.out.trans (hb4.mono HB1.out.size)); clear hb4))
      go_ret
      exact ⟨rfl, HB4.out⟩
    | ok D =>
      obtain ⟨hDr, hD0, hDl⟩ := scn_ok_at hS
      obtain ⟨n, hn⟩ : ∃ n, D.length = n := ⟨_, rfl⟩
      have HX1 := Lib.hid (fun W => scn_good s W hs (by rw [scnP_small (by omega)]; exact hS) hn)
      have HN := Lib.hid (And.intro hn hsl)
      have HNX : Hid (Nx s D n 0 0) := Lib.hid (.inl ⟨by omega, by simpa using hS⟩)
      have HS := Lib.hid hs
      have hn2 : n ≤ 2001 := by omega
      clear hS hs hbig hDr hn hsl hDl hD0
      go_enter Tryd.func6, Tryd.ntmps6
      go_wp2_with (go_at_call 10; (with_reducible refine (HX1.out _).mono ?_); rintro e w1 ⟨A1, c1, rfl, hc1, hm1, ht1, hb1⟩; have HB1 := Lib.hid hb1; have HT1 := Lib.hid ht1; clear hb1 ht1)
      go_loopw [7, 6] (fun iv av wr => ∃ i a : Nat, iv = .int .i64 i ∧ av = .int .i64 a ∧ i ≤ n ∧ a ≤ s.size ∧ Hid (Nx s D n i a) ∧ Hid (Below w1.heap.size w1 wr)) (fun iv _ _ => n - (RowKit.intOf iv).toNat)
      case atStart => exact ⟨0, 0, rfl, rfl, by omega, by omega, HNX, Lib.hid (Below.refl _ _)⟩
      case round =>
        obtain ⟨i, a, rfl, rfl, hi, ha, HX, HB⟩ := hrel
        clear HNX
        by_cases hil : i < n
        · have hil' : (i : Int) < (n : Int) := by omega
          have hi0 : (0 : Int) ≤ (i : Int) := by omega
          obtain ⟨b, rfl, hba, a0, a1, a2, a3⟩ := (HT1.out.below HB.out) i (by rw [HN.out.1]; omega)
          have hsc : scn (s.data.toList.drop a) = .ok (D.getD i tk0 :: D.drop (i + 1)) := by
            rcases HX.out with ⟨-, h⟩ | ⟨h, -⟩
            · rw [h, drop_getD (by rw [HN.out.1]; exact hil)]
            · omega
          obtain ⟨x, hx⟩ : ∃ x, D.getD i tk0 = x := ⟨_, rfl⟩
          rw [hx] at a0 a1 a2 a3 hsc
          obtain ⟨hrem, hcase⟩ := scn_head (by rw [HN.out.2]; exact ha) hsc
          obtain ⟨k, rem, tx⟩ := x
          simp only at a0 a1 a2 a3 hrem hcase
          obtain ⟨q, hq⟩ : ∃ q, s.size - rem = q := ⟨_, rfl⟩
          rw [hq] at a2
          obtain ⟨nv, hnv⟩ : ∃ nv, numV k tx = nv := ⟨_, rfl⟩
          rw [hnv] at a1
          have hSK := Lib.hid (fun W => refSkip_any s W HS.out ha)
          rw [← hrem, hq] at hSK
          obtain ⟨X, hX⟩ : ∃ X, srcB k ⟨⟨tx⟩⟩ = X := ⟨_, rfl⟩
          have hXl : X.data.toList = src k tx := by rw [← hX]; rfl
          have hXz : X.size = (src k tx).length := by rw [← hXl]; simp
          obtain ⟨m, hm⟩ : ∃ m, q + X.size = m := ⟨_, rfl⟩
          have hfacts : m ≤ s.size ∧ q ≤ m ∧ k ≤ 4 ∧ s.extract q m = X ∧ Nx s D n (i + 1) m ∧ ((k = 0 ∧ i = n - 1 ∧ q = s.size) ∨ 1 ≤ k) ∧ (⟨⟨tx⟩⟩ : ByteArray).size ≤ 100000 := by
            have h9 := HN.out.2
            rcases hcase with ⟨he, hE, hs0⟩ | ⟨hk1, hk4, hr, hsr, htk, hnx⟩
            · injection he with h1 h2 h3
              subst h1 h2 h3
              have hq2 : q = s.size := by omega
              have hX0 : X.size = 0 := by rw [hXz]; rfl
              have hin : i + 1 = n := by
                have := congrArg List.length hE
                rw [List.length_drop, HN.out.1] at this
                simp at this; omega
              refine ⟨by omega, by omega, by omega, ?_, .inr ⟨hin, by omega⟩, .inl ⟨rfl, by omega, hq2⟩, by decide⟩
              exact ext_is hm (by omega) (by rw [hXl]; rfl)
            · refine ⟨by omega, by omega, hk4, ext_is hm (by omega) (by rw [hXl, ← hq, ← h9]; exact htk), ?_, .inr hk1, ?_⟩
              · have hnx2 : scn (s.data.toList.drop m) = .ok (D.drop (i + 1)) := by rw [← hm, hXz, ← hq, ← h9]; exact hnx
                rcases Nat.lt_or_ge (i + 1) n with h | h
                · exact .inl ⟨h, hnx2⟩
                · have h0 : D.drop (i + 1) = [] := List.drop_of_length_le (by rw [HN.out.1]; exact h)
                  rw [h0] at hnx2
                  exact absurd (scn_ok_at hnx2).2.1 (by simp)
              · show tx.length ≤ 100000
                have : tx.length ≤ (src k tx).length := by unfold src; split <;> simp; omega
                omega
          obtain ⟨hm9, hqm, hk4, hxt, hNX, hend, htx⟩ := hfacts
          have HNX2 := Lib.hid hNX
          have HSR := Lib.hid (fun W => refSource_any k nv q ⟨⟨tx⟩⟩ W (by omega) htx)
          rw [hX] at HSR
          clear hX hXl hXz hq hcase hsc hrem hx hnv hNX htx
          generalize (⟨⟨tx⟩⟩ : ByteArray) = TX at HSR a3
          have hq0 : (0 : Int) ≤ (q : Int) := by omega
          have hqm' : (q : Int) ≤ (m : Int) := by omega
          have hms : (m : Int) ≤ (s.size : Int) := by omega
          have hmi : (q : Int) + (X.size : Int) = (m : Int) := by omega
          have hmi2 : decide ((s.size : Int) < (m : Int)) = false := decide_eq_false (by omega)
          have hXs : (X.size : Int) ≤ 9223372036854775807 := by omega
          have hqq : ((q : Int) != (q : Int)) = false := by rw [bne_self_eq_false]
          have hgd : ((k : Int) == 0) = false ∨ (((k : Int) == 0) = true ∧ ((i : Int) != (n : Int) - 1) = false ∧ ((q : Int) != (s.size : Int)) = false) := by
            rcases hend with ⟨rfl, h1, h2⟩ | h
            · refine .inr ⟨rfl, ?_, ?_⟩
              · rw [bne, show ((i : Int) == (n : Int) - 1) = true by rw [beq_iff_eq]; omega]; rfl
              · rw [h2, bne_self_eq_false]
            · exact .inl (by rw [beq_eq_false_iff_ne]; omega)
          have hk1n : (1 : Int) ≤ (n : Int) := by omega
          clear hend
          rcases hgd with e0 | ⟨e0, e1, e2⟩
          all_goals
            go_upto_region 11 with fail
            have hTK : TkB (wr.alloc (.cells #[.int .i64 k, .int .i64 nv, .int .i64 q, .string TX] 30)) wr.heap.size k nv q TX := TkB.new wr _ _ _ _
            have hBW : Below wr.heap.size wr (wr.alloc (.cells #[.int .i64 k, .int .i64 nv, .int .i64 q, .string TX] 30)) := below_one wr _
            have HBW := Lib.hid hBW
            have HTK := Lib.hid hTK
            generalize hH : wr.heap.size = H at hTK HTK
            generalize hW4 : World.alloc wr _ = W4 at hTK hBW HBW HTK
            obtain ⟨⟨t0, t1, t2, t3⟩, -⟩ := hTK.cells
            have HH := Lib.hid hH
            clear hTK hBW hW4 hH hba a0 a1 a2 a3
            go_quiet ((go_at_call 16; exact Calls.quiet_of_same (hSK.out _)))
            go_wp2_with (go_at_call 15; (with_reducible refine (HSR.out _).mono ?_); rintro e w5 ⟨rfl, hb5⟩; have HT5 := Lib.hid (show TkB w5 H k nv q TX from HTK.out.keep (hb5.block H HTK.out.lt)); have HB5 := Lib.hid (below_d HBW.out hb5); clear t0 t1 t2 t3 hb5; obtain ⟨⟨t0, t1, t2, t3⟩, -⟩ := HT5.out.cells)
            go_roundw
            case rel => exact ⟨i + 1, m, by go_num, rfl, by omega, hm9, HNX2, Lib.hid (HB.out.trans (HB5.out.mono HB.out.size))⟩
            case measure => simp [RowKit.intOf]; omega
        · obtain rfl : i = n := by omega
          have hd : decide ((i : Int) < (i : Int)) = false := decide_eq_false (by omega)
          obtain rfl : a = s.size := by
            rcases HX.out with ⟨h, -⟩ | ⟨-, h⟩
            · omega
            · exact h
          have hd2 : ((s.size : Int) == (s.size : Int)) = true := by simp
          have HBW := Lib.hid (HB1.out.trans (HB.out.mono HB1.out.size))
          go_wp2_with (go_at_call 9; (with_reducible refine (awake_any _).mono ?_); rintro e w4 ⟨rfl, hb4⟩; have HB4 := Lib.hid (HBW.out.trans (hb4.mono HBW.out.size)); clear hb4)
          go_ret
          exact ⟨rfl, HB4.out⟩
end Go.Proofs.YtkdimbpmgngajaaDoor
