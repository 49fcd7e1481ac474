/- Walks: the day that a text denotes, in the program. -/
import Derived.Test.YtigohhliblgdhaaDoorCalPar1
namespace Go.Proofs.YtigohhliblgdhaaDoor
open Go.RowKit

theorem ext_list (s : ByteArray) (a b : Nat) : (s.extract a b).data.toList = (s.data.toList.take b).drop a := by
  simp [ByteArray.extract, ByteArray.copySlice, List.extract_eq_take_drop, List.drop_take]
def parY (l : List UInt8) : Int := numL (l.take 4)
def parM (l : List UInt8) : Int := numL ((l.take 7).drop 5)
def parD (l : List UInt8) : Int := numL ((l.take 10).drop 8)
/-- The day that a text denotes, and the error. -/
def parV (l : List UInt8) : Int := if dtd l then dayV (parY l) (parM l) (parD l) else 0
def parE (l : List UInt8) : Int := if dtd l then dayE (parY l) (parM l) (parD l) else 1
theorem par_no {l : List UInt8} (h : dtd l = false) : parV l = 0 ∧ parE l = 1 := by simp [parV, parE, h]
theorem par_yes {l : List UInt8} (h : dtd l = true) : parV l = dayV (parY l) (parM l) (parD l) ∧ parE l = dayE (parY l) (parM l) (parD l) := by simp [parV, parE, h]
theorem dtd_spec {l : List UInt8} (h : dtd l = true) : l.length = 10 ∧ ∀ i, i < 10 → goodC i (l.getD i 0) = true := by
  simp only [dtd, Bool.and_eq_true, decide_eq_true_eq, List.all_eq_true, List.mem_range] at h
  exact h
theorem ten {l : List UInt8} (h : l.length = 10) : ∃ a b c d e f g i j k, l = [a, b, c, d, e, f, g, i, j, k] := by
  match l, h with
  | [a, b, c, d, e, f, g, i, j, k], _ => exact ⟨a, b, c, d, e, f, g, i, j, k, rfl⟩
theorem dtd_ten {a b c d e f g i j k : UInt8} (h : dtd [a, b, c, d, e, f, g, i, j, k] = true) :
    dgt a = true ∧ dgt b = true ∧ dgt c = true ∧ dgt d = true ∧ e.toNat = 45 ∧ dgt f = true ∧ dgt g = true ∧ i.toNat = 45 ∧ dgt j = true ∧ dgt k = true := by
  have h2 := (dtd_spec h).2
  have g0 := h2 0 (by decide)
  have g1 := h2 1 (by decide)
  have g2 := h2 2 (by decide)
  have g3 := h2 3 (by decide)
  have g4 := h2 4 (by decide)
  have g5 := h2 5 (by decide)
  have g6 := h2 6 (by decide)
  have g7 := h2 7 (by decide)
  have g8 := h2 8 (by decide)
  have g9 := h2 9 (by decide)
  simp [goodC] at g0 g1 g2 g3 g4 g5 g6 g7 g8 g9
  exact ⟨g0, g1, g2, g3, g4, g5, g6, g7, g8, g9⟩
theorem dtd_parts {l : List UInt8} (h : dtd l = true) : (l.take 4).all dgt = true ∧ ((l.take 7).drop 5).all dgt = true ∧ ((l.take 10).drop 8).all dgt = true := by
  obtain ⟨a, b, c, d, e, f, g, i, j, k, rfl⟩ := ten (dtd_spec h).1
  obtain ⟨ha, hb, hc, hd, _, hf, hg, _, hj, hk⟩ := dtd_ten h
  simp [ha, hb, hc, hd, hf, hg, hj, hk]

set_option maxHeartbeats 4000000 in
theorem parse_any (s : ByteArray) (w : World) (hs : s.size ≤ maxLen) :
    Calls Tryd.prog 18 #[.string s] w fun e w' => e = .returned (.tuple #[.int .i64 (parV s.data.toList), .int .i64 (parE s.data.toList)]) ∧ Below w.heap.size w w' := by
  have HI0 := fun w => isDated_any s w hs
  cases hd : dtd s.data.toList
  · have HF := Lib.hid (par_no hd)
    rw [hd] at HI0
    have HI := Lib.hid HI0
    clear hd HI0
    go_enter Tryd.func18, Tryd.ntmps18
    go_wp2_with (go_at_call 34; refine (HI.out _).mono ?_; rintro e w0 ⟨rfl, rfl⟩)
    go_ret2
    exact ⟨ret_ints HF.out.1.symm HF.out.2.symm, Below.refl _ _⟩
  · have HF := Lib.hid (par_yes hd)
    rw [hd] at HI0
    have HI := Lib.hid HI0
    obtain ⟨q1, q2, q3⟩ := dtd_parts hd
    have hlen : s.size = 10 := by have := (dtd_spec hd).1; simpa using this
    have N1 := Lib.hid (fun w => number_any (s.extract 0 4) w (by rw [ByteArray.size_extract]; omega) (by rw [ext_list]; exact q1))
    have N2 := Lib.hid (fun w => number_any (s.extract 5 7) w (by rw [ByteArray.size_extract]; omega) (by rw [ext_list]; exact q2))
    have N3 := Lib.hid (fun w => number_any (s.extract 8 10) w (by rw [ByteArray.size_extract]; omega) (by rw [ext_list]; exact q3))
    rw [ext_list] at N1 N2 N3
    rw [List.drop_zero] at N1
    have NY : parY s.data.toList = numL (s.data.toList.take 4) := rfl
    have NM : parM s.data.toList = numL ((s.data.toList.take 7).drop 5) := rfl
    have ND : parD s.data.toList = numL ((s.data.toList.take 10).drop 8) := rfl
    rw [← NY] at N1
    rw [← NM] at N2
    rw [← ND] at N3
    generalize parY s.data.toList = y at *
    generalize parM s.data.toList = m at *
    generalize parD s.data.toList = d at *
    have HD := Lib.hid (fun w => day_any y m d w)
    clear hd HI0 q1 q2 q3 NY NM ND
    go_enter Tryd.func18, Tryd.ntmps18
    go_wp2_with (go_at_call 34; refine (HI.out _).mono ?_; rintro e w0 ⟨rfl, rfl⟩)
    go_region_held3 (fun w' => True) (trivial)
      (first
        | (go_at_call 35; (with_reducible refine (N1.out _).mono ?_); rintro e w1 ⟨rfl, rfl⟩)
        | (go_at_call 35; (with_reducible refine (N2.out _).mono ?_); rintro e w1 ⟨rfl, rfl⟩)
        | (go_at_call 35; (with_reducible refine (N3.out _).mono ?_); rintro e w1 ⟨rfl, rfl⟩)
        | (go_at_call 9; (with_reducible refine (HD.out _).mono ?_); rintro e w1 ⟨rfl, hb1⟩))
    have hb2 : Below w.heap.size w w1 := ⟨hb1.os, hb1.tape, hb1.output, hb1.size, hb1.block⟩
    clear hb1
    go_wp2
    go_ret2
    exact ⟨ret_ints HF.out.1.symm HF.out.2.symm, hb2⟩

theorem refNum_yes {l : List UInt8} (h : l.all dgt = true) : refNum l = numL l := by simp [refNum, h]
theorem refNum_no {l : List UInt8} (h : l.all dgt = false) : refNum l = -1 := by simp [refNum, h]
theorem refNum_pos {l : List UInt8} (h : l.all dgt = true) : 0 ≤ refNum l := by rw [refNum_yes h]; exact (numL_bd l h).1
/-- A text of ten bytes with its two dashes that has not the form of a date. -/
theorem dtd_nums {l : List UInt8} (h : dtd l = false) (hl : l.length = 10) (h4 : (l.getD 4 0).toNat = 45) (h7 : (l.getD 7 0).toNat = 45) :
    refNum (l.take 4) = -1 ∨ (0 ≤ refNum (l.take 4) ∧ refNum ((l.take 7).drop 5) = -1) ∨ (0 ≤ refNum (l.take 4) ∧ 0 ≤ refNum ((l.take 7).drop 5) ∧ refNum ((l.take 10).drop 8) = -1) := by
  cases e1 : (l.take 4).all dgt
  · exact .inl (refNum_no e1)
  · cases e2 : ((l.take 7).drop 5).all dgt
    · exact .inr (.inl ⟨refNum_pos e1, refNum_no e2⟩)
    · cases e3 : ((l.take 10).drop 8).all dgt
      · exact .inr (.inr ⟨refNum_pos e1, refNum_pos e2, refNum_no e3⟩)
      · exfalso
        obtain ⟨a, b, c, d, e, f, g, i, j, k, rfl⟩ := ten hl
        simp at e1 e2 e3 h4 h7
        rw [dtd_good hl] at h
        · cases h
        · intro n hn
          match n, hn with
          | 0, _ => simp [goodC, e1]
          | 1, _ => simp [goodC, e1]
          | 2, _ => simp [goodC, e1]
          | 3, _ => simp [goodC, e1]
          | 4, _ => simp [goodC, h4]
          | 5, _ => simp [goodC, e2]
          | 6, _ => simp [goodC, e2]
          | 7, _ => simp [goodC, h7]
          | 8, _ => simp [goodC, e3]
          | 9, _ => simp [goodC, e3]

set_option maxHeartbeats 4000000 in
/-- The reference's parse of a text of ten bytes with its dashes. -/
theorem refParse_ten (s : ByteArray) (w : World) (hl : s.size = 10) (h4 : s[4].toNat = 45) (h7 : s[7].toNat = 45) (y m d : Int)
    (hy : refNum (s.data.toList.take 4) = y) (hm : refNum ((s.data.toList.take 7).drop 5) = m) (hd : refNum ((s.data.toList.take 10).drop 8) = d) (v e : Int)
    (h : (y < 0 ∧ v = 0 ∧ e = 1) ∨ (¬ y < 0 ∧ m < 0 ∧ v = 0 ∧ e = 1) ∨ (¬ y < 0 ∧ ¬ m < 0 ∧ d < 0 ∧ v = 0 ∧ e = 1) ∨ (¬ y < 0 ∧ ¬ m < 0 ∧ ¬ d < 0 ∧ v = dayV y m d ∧ e = dayE y m d)) :
    Calls Tryd.prog 26 #[.string s] w fun e' w' => e' = .returned (.tuple #[.int .i64 v, .int .i64 e]) ∧ Below w.heap.size w w' := by
  have N1 := Lib.hid (fun w => refNumber_any (s.extract 0 4) w (by rw [ByteArray.size_extract]; omega))
  have N2 := Lib.hid (fun w => refNumber_any (s.extract 5 7) w (by rw [ByteArray.size_extract]; omega))
  have N3 := Lib.hid (fun w => refNumber_any (s.extract 8 10) w (by rw [ByteArray.size_extract]; omega))
  rw [ext_list] at N1 N2 N3
  rw [List.drop_zero] at N1
  rw [hy] at N1
  rw [hm] at N2
  rw [hd] at N3
  have HD := Lib.hid (fun w => refDay_any y m d w)
  have g4 : ((s[4].toNat : Int) != 45) = false := by rw [h4]; decide
  have g7 : ((s[7].toNat : Int) != 45) = false := by rw [h7]; decide
  clear hy hm hd h4 h7
  have HB0 : ∀ wx : World, Below wx.heap.size wx (wx.alloc (.cells #[.int .i64 y, .int .i64 m, .int .i64 d] 23)).drew := fun wx => ((Below.refl _ wx).alloc (Nat.le_refl _) _).drew
  have HB := Lib.hid HB0
  have hdat := Dat.new w y m d
  obtain ⟨_, hc0, hc1, hc2⟩ := hdat
  clear HB0
  rcases h with ⟨c1, rfl, rfl⟩ | ⟨c1, c2, rfl, rfl⟩ | ⟨c1, c2, c3, rfl, rfl⟩ | ⟨c1, c2, c3, hv, he⟩
  case' inl => have d1 : decide (y < 0) = true := decide_eq_true c1
  case' inr.inl => (have d1 : decide (y < 0) = false := decide_eq_false c1; have d2 : decide (m < 0) = true := decide_eq_true c2)
  case' inr.inr.inl => (have d1 : decide (y < 0) = false := decide_eq_false c1; have d2 : decide (m < 0) = false := decide_eq_false c2; have d3 : decide (d < 0) = true := decide_eq_true c3)
  case' inr.inr.inr => (have d1 : decide (y < 0) = false := decide_eq_false c1; have d2 : decide (m < 0) = false := decide_eq_false c2; have d3 : decide (d < 0) = false := decide_eq_false c3; have HV := Lib.hid (And.intro hv he); clear hv he)
  all_goals
    go_enter Tryd.func26, Tryd.ntmps26
    go_wp2
    go_region_held3 (fun w' => True) (trivial)
      (first
        | (go_at_call 43; (with_reducible refine (N1.out _).mono ?_); rintro e w1 ⟨rfl, rfl⟩)
        | (go_at_call 43; (with_reducible refine (N2.out _).mono ?_); rintro e w1 ⟨rfl, rfl⟩)
        | (go_at_call 43; (with_reducible refine (N3.out _).mono ?_); rintro e w1 ⟨rfl, rfl⟩))
    all_goals
      go_wp2_with (go_at_call 10; (with_reducible refine (HD.out _).mono ?_); rintro e w2 ⟨rfl, hb2⟩)
      go_ret2
      first
        | exact ⟨rfl, HB.out w⟩
        | exact ⟨ret_ints HV.out.1.symm HV.out.2.symm, (HB.out w).trans (hb2.mono (HB.out w).size)⟩
        | exact ⟨rfl, below_drewN ((Below.refl _ w).alloc (Nat.le_refl _) _) _⟩
theorem refParse_any (s : ByteArray) (w : World) (hs : s.size ≤ maxLen) :
    Calls Tryd.prog 26 #[.string s] w fun e w' => e = .returned (.tuple #[.int .i64 (parV s.data.toList), .int .i64 (parE s.data.toList)]) ∧ Below w.heap.size w w' := by
  unfold maxLen at hs
  by_cases hl : s.size = 10
  · by_cases h4 : s[4].toNat = 45
    · by_cases h7 : s[7].toNat = 45
      · refine refParse_ten s w hl h4 h7 _ _ _ rfl rfl rfl _ _ ?_
        cases hd : dtd s.data.toList
        · obtain ⟨e1, e2⟩ := par_no hd
          rw [e1, e2]
          have := dtd_nums hd (by simpa using hl) (by rw [getD_at s 4 (by omega)]; exact h4) (by rw [getD_at s 7 (by omega)]; exact h7)
          omega
        · obtain ⟨q1, q2, q3⟩ := dtd_parts hd
          obtain ⟨e1, e2⟩ := par_yes hd
          have p1 := refNum_pos q1
          have p2 := refNum_pos q2
          have p3 := refNum_pos q3
          refine .inr (.inr (.inr ⟨by omega, by omega, by omega, ?_, ?_⟩))
          · rw [e1, refNum_yes q1, refNum_yes q2, refNum_yes q3]; rfl
          · rw [e2, refNum_yes q1, refNum_yes q2, refNum_yes q3]; rfl
      · have HF := Lib.hid (par_no (dtd_bad (l := s.data.toList) (i := 7) (by decide) (by rw [getD_at s 7 (by omega)]; simp [goodC, h7])))
        have g4 : ((s[4].toNat : Int) != 45) = false := by rw [h4]; decide
        have g7 : ((s[7].toNat : Int) != 45) = true := by have : ¬ (s[7].toNat : Int) = 45 := by omega
                                                          simpa using this
        clear h4 h7
        go_enter Tryd.func26, Tryd.ntmps26
        go_wp2
        go_ret2
        exact ⟨ret_ints HF.out.1.symm HF.out.2.symm, Below.refl _ _⟩
    · have HF := Lib.hid (par_no (dtd_bad (l := s.data.toList) (i := 4) (by decide) (by rw [getD_at s 4 (by omega)]; simp [goodC, h4])))
      have g4 : ((s[4].toNat : Int) != 45) = true := by have : ¬ (s[4].toNat : Int) = 45 := by omega
                                                        simpa using this
      clear h4
      go_enter Tryd.func26, Tryd.ntmps26
      go_wp2
      go_ret2
      exact ⟨ret_ints HF.out.1.symm HF.out.2.symm, Below.refl _ _⟩
  · have HF := Lib.hid (par_no (dtd_len (l := s.data.toList) (by simpa using hl)))
    have hl' : ¬ (s.size : Int) = 10 := by omega
    go_enter Tryd.func26, Tryd.ntmps26
    go_wp2
    go_ret2
    exact ⟨ret_ints HF.out.1.symm HF.out.2.symm, Below.refl _ _⟩
end Go.Proofs.YtigohhliblgdhaaDoor
