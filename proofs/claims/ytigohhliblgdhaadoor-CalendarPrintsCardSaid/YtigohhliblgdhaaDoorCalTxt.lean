/- Walks: the text of a day's date, in the program and in the reference. -/
import Derived.Test.YtigohhliblgdhaaDoorCalTxtM
import Derived.Test.YtigohhliblgdhaaDoorCalRefDate
import Derived.Test.YtigohhliblgdhaaDoorShelf
import Derived.Laws.IdiomStrings
import Derived.Lib.BufferRead
import Derived.Maps.AppendAt
import Derived.Lib.SmallJoins
import Derived.Lib.AppendIntMem
namespace Go.Proofs.YtigohhliblgdhaaDoor
open Go.RowKit

/-- The library's table of powers of ten lies as its text lays it. -/
abbrev Tab (w : World) : Prop := Lib.TabIs Tryd.prog w "internal/strconv.uint64pow10" .u64 Lib.pow10Tab
theorem Tab.below {w w' : World} (h : Tab w) (hb : Below w.heap.size w w') : Tab w' :=
  Go.Joins.tab_stays (g := 0) (by kernel_rfl) h hb (Nat.le_refl _)

/-- New blocks of one and of two bytes, as strings. -/
theorem conv_one {P : Program} (w : World) (src dst e : TypeId) (hs : P.underlying src = some (.slice e)) (he : P.underlying e = some (.int .u8)) (hd : P.underlying dst = some .string) (x : Int) (h0 : 0 ≤ x) (h1 : x ≤ 255) :
    (convert src dst (.slice (some ⟨w.heap.size, 0, none⟩) 1 1)).run P (w.alloc (.cells #[.int .u8 x] e)) = .ok (.string (S [b8 x])) (w.alloc (.cells #[.int .u8 x] e)) := by
  have := run_convert_bytes_back (P := P) (w.alloc (.cells #[.int .u8 x] e)) src dst e ⟨w.heap.size, 0, none⟩ 1 [b8 x] hs he hd (fun j hj => by
    have hc := cell_one_new w (.int .u8 x) e j (.int .u8 x) (by
      have : j = 0 := by simpa using hj
      subst this; rfl)
    rw [hc]
    have : j = 0 := by simpa using hj
    subst this
    simp [b8_toNat h0 h1])
  exact this
theorem conv_two {P : Program} (w : World) (src dst e : TypeId) (hs : P.underlying src = some (.slice e)) (he : P.underlying e = some (.int .u8)) (hd : P.underlying dst = some .string) (x y : Int) (h0 : 0 ≤ x) (h1 : x ≤ 255) (h2 : 0 ≤ y) (h3 : y ≤ 255) :
    (convert src dst (.slice (some ⟨w.heap.size, 0, none⟩) 2 2)).run P (w.alloc (.cells #[.int .u8 x, .int .u8 y] e)) = .ok (.string (S [b8 x, b8 y])) (w.alloc (.cells #[.int .u8 x, .int .u8 y] e)) := by
  have := run_convert_bytes_back (P := P) (w.alloc (.cells #[.int .u8 x, .int .u8 y] e)) src dst e ⟨w.heap.size, 0, none⟩ 2 [b8 x, b8 y] hs he hd (fun j hj => by
    have ha : ((⟨w.heap.size, 0, none⟩ : Addr).add j) = ⟨w.heap.size, j, none⟩ := by unfold Addr.add; split <;> simp_all
    rw [ha, cell_of_row _ _ _ _ _ (0, 0) (heap_alloc_new _ _)]
    match j, hj with
    | 0, _ => simp [b8_toNat h0 h1]
    | 1, _ => simp [b8_toNat h2 h3])
  exact this

set_option maxHeartbeats 1000000 in
theorem two_any (n : Int) (w : World) (h : 0 ≤ n) (h2 : n ≤ 99) : Calls Tryd.prog 37 #[.int .i64 n] w fun e w' => e = .returned (.string (S (lastD n 2))) ∧ Below w.heap.size w w' := by
  have hcv : (convert 49 9 (.slice (some ⟨w.heap.size, 0, none⟩) 2 2)).run Tryd.prog (w.alloc (.cells #[.int .u8 (48 + n / 10), .int .u8 (48 + n % 10)] 5)) = .ok (.string (S [b8 (48 + n / 10), b8 (48 + n % 10)])) (w.alloc (.cells #[.int .u8 (48 + n / 10), .int .u8 (48 + n % 10)] 5)) :=
    conv_two w _ _ _ Tryd.underlying49 Tryd.underlying5 Tryd.underlying9 _ _ (by omega) (by omega) (by omega) (by omega)
  have HL := Lib.hid (lastD_two n h h2)
  go_enter Tryd.func37, Tryd.ntmps37
  go_wp2
  go_ret
  exact ⟨ret_str (by rw [HL.out]), (Below.refl _ _).alloc (Nat.le_refl _) _⟩
theorem itoa_any (y : Int) (w : World) (h : 1000 ≤ y) (h2 : y ≤ 9999) (ht : Tab w) : Calls Tryd.prog 36 #[.int .i64 y] w fun e w' => e = .returned (.string (S (lastD y 4))) ∧ Below w.heap.size w w' :=
  (Tryd.strconv_Itoa y (by omega) (by omega) w ht).mono fun e w' ⟨he, k, os, hw⟩ => ⟨by rw [he, itoa_year y h h2]; rfl, by rw [hw]; exact Lib.below_grow _ _ (Nat.le_refl _) _ _⟩

set_option maxHeartbeats 2000000 in
theorem refDigits_any (n : Int) (k : Nat) (w : World) (h : 0 ≤ n) (h2 : n ≤ 100000) (hk : k ≤ 10) : Calls Tryd.prog 44 #[.int .i64 n, .int .i64 k] w fun e w' => e = .returned (.string (S (lastD n k))) ∧ Below w.heap.size w w' := by
  go_enter Tryd.func44, Tryd.ntmps44
  go_wp2
  go_loopw [0, 5, 6] (fun x t i wr => ∃ (j : Nat) (y : Int), j ≤ k ∧ i = .int .i64 j ∧ x = .int .i64 y ∧ Hid (n / (10 : Int) ^ j = y) ∧ 0 ≤ y ∧ y ≤ n ∧ t = .string (S (lastD n j)) ∧ Below w.heap.size w wr) (fun _ _ i _ => k - (intOf i).toNat)
  case atStart => exact ⟨0, n, by omega, rfl, rfl, Lib.hid (by simp), h, by omega, rfl, Below.refl _ _⟩
  case round =>
    obtain ⟨j, y, hj, rfl, rfl, HY, hy0, hyn, rfl, hb⟩ := hrel
    have hsz := hb.size
    by_cases hlt : j < k
    · have hcv : (convert 49 9 (.slice (some ⟨wr.heap.size, 0, none⟩) 1 1)).run Tryd.prog (wr.alloc (.cells #[.int .u8 (48 + y % 10)] 5)) = .ok (.string (S [b8 (48 + y % 10)])) (wr.alloc (.cells #[.int .u8 (48 + y % 10)] 5)) :=
        conv_one wr _ _ _ Tryd.underlying49 Tryd.underlying5 Tryd.underlying9 _ (by omega) (by omega)
      have hl := lastD_length j n
      have hadd : ∀ wx, (Op.stringOp .add (S [b8 (48 + y % 10)]) (S (lastD n j))).run Tryd.prog wx = .ok (.string (S (b8 (48 + y % 10) :: lastD n j))) wx := fun wx => by
        rw [run_string_add_sum wx _ _ (by rw [S_size, S_size, hl]; simp; omega), S_append]; rfl
      have HN : Hid (n / (10 : Int) ^ (j + 1) = y / 10) := Lib.hid (by
        rw [Int.pow_succ, ← Int.ediv_ediv_of_nonneg (Int.le_of_lt (Int.pow_pos (by decide))), HY.out])
      have HL : Hid (lastD n (j + 1) = b8 (48 + y % 10) :: lastD n j) := Lib.hid (by rw [lastD_cons, HY.out])
      clear hl
      go_wp2
      go_roundw
      case rel => exact ⟨j + 1, y / 10, by omega, by go_num, rfl, HN, by omega, by omega, by rw [HL.out], hb.alloc hsz _⟩
      case measure => simp [intOf]; omega
    · obtain rfl : j = k := by omega
      go_wp2
      go_ret
      exact ⟨rfl, hb⟩

theorem text_adds (y m d : Int) : ∃ T1 T2 T3 : ByteArray,
    (∀ wx, (Op.stringOp .add (S (lastD y 4)) ⟨#[45]⟩).run Tryd.prog wx = .ok (.string T1) wx) ∧
    (∀ wx, (Op.stringOp .add T1 (S (lastD m 2))).run Tryd.prog wx = .ok (.string T2) wx) ∧
    (∀ wx, (Op.stringOp .add T2 ⟨#[45]⟩).run Tryd.prog wx = .ok (.string T3) wx) ∧
    (∀ wx, (Op.stringOp .add T3 (S (lastD d 2))).run Tryd.prog wx = .ok (.string (S (datT y m d))) wx) := by
  refine ⟨S (lastD y 4 ++ [45]), S (lastD y 4 ++ [45] ++ lastD m 2), S (lastD y 4 ++ [45] ++ lastD m 2 ++ [45]), ?_⟩
  have l4 := lastD_length 4 y
  have l2 := lastD_length 2 m
  have l2' := lastD_length 2 d
  refine ⟨fun wx => ?_, fun wx => ?_, fun wx => ?_, fun wx => ?_⟩
  · rw [run_string_add_sum wx _ _ (by rw [S_size, l4]; show 4 + 1 ≤ _; decide), show (⟨#[45]⟩ : ByteArray) = S [45] from rfl, S_append]
  · rw [run_string_add_sum wx _ _ (by rw [S_size, S_size, List.length_append, l4, l2]; show 4 + 1 + 2 ≤ _; decide), S_append]
  · rw [run_string_add_sum wx _ _ (by rw [S_size, List.length_append, List.length_append, l4, l2]; show 4 + 1 + 2 + 1 ≤ _; decide), show (⟨#[45]⟩ : ByteArray) = S [45] from rfl, S_append]
  · rw [run_string_add_sum wx _ _ (by rw [S_size, S_size, List.length_append, List.length_append, List.length_append, l4, l2, l2']; show 4 + 1 + 2 + 1 + 2 ≤ _; decide), S_append]; rfl
theorem date_bounds {n : Int} (h : 0 ≤ n) (h2 : n < 146097) : 2000 ≤ yrI n ∧ yrI n ≤ 2399 ∧ 1 ≤ moI n ∧ moI n ≤ 12 ∧ 1 ≤ dyI n ∧ dyI n ≤ 31 := by
  obtain ⟨s1, _⟩ := date_spec n h h2
  have sM := okM_iff.1 (okM_of s1)
  rw [okD_iff] at s1
  have := len_bd (yrI n) (moI n)
  omega

set_option maxHeartbeats 4000000 in
theorem print_in (n : Int) (w : World) (h : 0 ≤ n) (h2 : n < 146097) (ht : Tab w) :
    Calls Tryd.prog 19 #[.int .i64 n] w fun e w' => e = .returned (.string (S (datT (yrI n) (moI n) (dyI n)))) ∧ Below w.heap.size w w' := by
  obtain ⟨b1, b2, b3, b4, b5, b6⟩ := date_bounds h h2
  have H0 := Lib.hid (fun w => validDay_yes n w h h2)
  have H1 := Lib.hid (fun w => date_in n w h h2)
  generalize yrI n = y at *
  generalize moI n = m at *
  generalize dyI n = d at *
  have HT := Lib.hid ht
  have HI := Lib.hid (fun w (t : Tab w) => itoa_any y w (by omega) (by omega) t)
  have H2 := Lib.hid (fun w => two_any m w (by omega) (by omega))
  have H3 := Lib.hid (fun w => two_any d w (by omega) (by omega))
  obtain ⟨T1, T2, T3, a1, a2, a3, a4⟩ := text_adds y m d
  generalize datT y m d = T at *
  clear ht h h2
  go_enter Tryd.func19, Tryd.ntmps19
  go_wp2_with fail
  refine (H0.out _).mono ?_
  rintro e w0 ⟨rfl, rfl⟩
  go_wp2_with fail
  refine (H1.out _).mono ?_
  rintro e w1 ⟨rfl, hb1⟩
  obtain ⟨hg, hc0, hc1, hc2⟩ := Dat.new w1 y m d
  have HT1 := Lib.hid (Tab.below HT.out (hb1.alloc hb1.size (.cells #[.int .i64 y, .int .i64 m, .int .i64 d] 23)))
  have hbq := hb1.alloc hb1.size (.cells #[.int .i64 y, .int .i64 m, .int .i64 d] 23)
  have HD : Hid (Dat (w1.alloc (.cells #[.int .i64 y, .int .i64 m, .int .i64 d] 23)) w1.heap.size y m d) := Dat.new w1 y m d
  clear hb1
  go_wp2
  generalize w1.alloc (.cells #[.int .i64 y, .int .i64 m, .int .i64 d] 23) = wq at *
  generalize w1.heap.size = g at *
  have HT2 : Hid (Tab wq.drew) := HT1.out
  go_region_held3 (fun w' => w'.cell? ⟨g, 0, none⟩ = some (.int .i64 y) ∧ w'.cell? ⟨g, 1, none⟩ = some (.int .i64 m) ∧ w'.cell? ⟨g, 2, none⟩ = some (.int .i64 d)) (go_keep)
    (first
      | (go_at_call 36; refine (HI.out _ HT2.out).mono ?_; rintro e w2 ⟨rfl, hb2⟩; have HD2 := Lib.hid (HD.out.drew.below hb2); obtain ⟨_, d20, d21, d22⟩ := HD2.out)
      | (go_at_call 37; (with_reducible refine (H2.out _).mono ?_); rintro e w3 ⟨rfl, hb3⟩; have HD3 := Lib.hid (HD2.out.below hb3); obtain ⟨_, d30, d31, d32⟩ := HD3.out)
      | (go_at_call 37; (with_reducible refine (H3.out _).mono ?_); rintro e w4 ⟨rfl, hb4⟩; have HD4 := Lib.hid (HD3.out.below hb4); obtain ⟨_, d40, d41, d42⟩ := HD4.out))
  have hb5 : Below w.heap.size w w4 := (hbq.drew.trans (hb2.mono hbq.drew.size)).trans ((hb3.mono (Nat.le_trans hbq.drew.size hb2.size)).trans (hb4.mono (Nat.le_trans (Nat.le_trans hbq.drew.size hb2.size) hb3.size)))
  go_wp2
  go_ret
  exact ⟨rfl, hb5⟩
theorem print_out (n : Int) (w : World) (h : n < 0 ∨ 146097 ≤ n) :
    Calls Tryd.prog 19 #[.int .i64 n] w fun e w' => e = .returned (.string (S [])) ∧ Below w.heap.size w w' := by
  have H0 := Lib.hid (fun w => validDay_no n w h)
  clear h
  go_enter Tryd.func19, Tryd.ntmps19
  go_wp2_with (go_at_call 32; refine (H0.out _).mono ?_; rintro e w0 ⟨rfl, rfl⟩)
  go_ret
  exact ⟨rfl, Below.refl _ _⟩
/-- The text of a day. -/
def prT (n : Int) : List UInt8 := if 0 ≤ n ∧ n < 146097 then datT (yrI n) (moI n) (dyI n) else []
theorem print_any (n : Int) (w : World) (ht : Tab w) :
    Calls Tryd.prog 19 #[.int .i64 n] w fun e w' => e = .returned (.string (S (prT n))) ∧ Below w.heap.size w w' := by
  unfold prT
  split
  · exact print_in n w (by omega) (by omega) ht
  · exact print_out n w (by omega)

set_option maxHeartbeats 4000000 in
theorem refPrint_in (n : Int) (w : World) (h : 0 ≤ n) (h2 : n < 146097) :
    Calls Tryd.prog 27 #[.int .i64 n] w fun e w' => e = .returned (.string (S (datT (yrI n) (moI n) (dyI n)))) ∧ Below w.heap.size w w' := by
  obtain ⟨b1, b2, b3, b4, b5, b6⟩ := date_bounds h h2
  have H1 := Lib.hid (fun w => refDate_in n w h h2)
  generalize yrI n = y at *
  generalize moI n = m at *
  generalize dyI n = d at *
  have HI := Lib.hid (fun w => refDigits_any y 4 w (by omega) (by omega) (by decide))
  have H2 := Lib.hid (fun w => refDigits_any m 2 w (by omega) (by omega) (by decide))
  have H3 := Lib.hid (fun w => refDigits_any d 2 w (by omega) (by omega) (by decide))
  rw [show (((4 : Nat) : Int)) = 4 from rfl] at HI
  rw [show (((2 : Nat) : Int)) = 2 from rfl] at H2 H3
  obtain ⟨T1, T2, T3, a1, a2, a3, a4⟩ := text_adds y m d
  generalize datT y m d = T at *
  have hy0 : ¬ y = 0 := by omega
  clear h h2
  go_enter Tryd.func27, Tryd.ntmps27
  go_wp2_with fail
  refine (H1.out _).mono ?_
  rintro e w1 ⟨rfl, hb1⟩
  obtain ⟨hg, hc0, hc1, hc2⟩ := Dat.new w1 y m d
  have hbq := hb1.alloc hb1.size (.cells #[.int .i64 y, .int .i64 m, .int .i64 d] 23)
  have HD : Hid (Dat (w1.alloc (.cells #[.int .i64 y, .int .i64 m, .int .i64 d] 23)) w1.heap.size y m d) := Dat.new w1 y m d
  clear hb1
  go_wp2
  generalize w1.alloc (.cells #[.int .i64 y, .int .i64 m, .int .i64 d] 23) = wq at *
  generalize w1.heap.size = g at *
  go_region_held3 (fun w' => w'.cell? ⟨g, 0, none⟩ = some (.int .i64 y) ∧ w'.cell? ⟨g, 1, none⟩ = some (.int .i64 m) ∧ w'.cell? ⟨g, 2, none⟩ = some (.int .i64 d)) (go_keep)
    (first
      | (go_at_call 44; (with_reducible refine (HI.out _).mono ?_); rintro e w2 ⟨rfl, hb2⟩; have HD2 := Lib.hid (HD.out.drew.below hb2); obtain ⟨_, d20, d21, d22⟩ := HD2.out)
      | (go_at_call 44; (with_reducible refine (H2.out _).mono ?_); rintro e w3 ⟨rfl, hb3⟩; have HD3 := Lib.hid (HD2.out.below hb3); obtain ⟨_, d30, d31, d32⟩ := HD3.out)
      | (go_at_call 44; (with_reducible refine (H3.out _).mono ?_); rintro e w4 ⟨rfl, hb4⟩; have HD4 := Lib.hid (HD3.out.below hb4); obtain ⟨_, d40, d41, d42⟩ := HD4.out))
  have hb5 : Below w.heap.size w w4 := (hbq.drew.trans (hb2.mono hbq.drew.size)).trans ((hb3.mono (Nat.le_trans hbq.drew.size hb2.size)).trans (hb4.mono (Nat.le_trans (Nat.le_trans hbq.drew.size hb2.size) hb3.size)))
  go_wp2
  go_ret
  exact ⟨rfl, hb5⟩
theorem refPrint_out (n : Int) (w : World) (h : n < 0 ∨ 146097 ≤ n) :
    Calls Tryd.prog 27 #[.int .i64 n] w fun e w' => e = .returned (.string (S [])) ∧ Below w.heap.size w w' := by
  have H1 := Lib.hid (fun w => refDate_out n w h)
  clear h
  go_enter Tryd.func27, Tryd.ntmps27
  go_wp2_with fail
  refine (H1.out _).mono ?_
  rintro e w1 ⟨rfl, hb1⟩
  obtain ⟨hg, hc0, hc1, hc2⟩ := Dat.new w1 0 0 0
  have hbq := hb1.alloc hb1.size (.cells #[.int .i64 0, .int .i64 0, .int .i64 0] 23)
  clear hb1
  go_wp2
  go_ret
  exact ⟨rfl, hbq⟩
theorem refPrint_any (n : Int) (w : World) :
    Calls Tryd.prog 27 #[.int .i64 n] w fun e w' => e = .returned (.string (S (prT n))) ∧ Below w.heap.size w w' := by
  unfold prT
  split
  · exact refPrint_in n w (by omega) (by omega)
  · exact refPrint_out n w (by omega)
end Go.Proofs.YtigohhliblgdhaaDoor
