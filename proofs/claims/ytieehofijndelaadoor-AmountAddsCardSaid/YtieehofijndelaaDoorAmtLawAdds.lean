/- Walk: the law on sums. -/
import Derived.Test.YtieehofijndelaaDoorAmtAwake
import Derived.Test.YtieehofijndelaaDoorAmtAdd
import Derived.Test.YtieehofijndelaaDoorAmtSum
import Derived.Test.YtieehofijndelaaDoorLawKit
namespace Go.Proofs.YtieehofijndelaaDoor
open Go.RowKit

theorem ints_row {w : World} {a : Option Addr} {len cap : Nat} {zs : List Int} (h : IsRow .i64 w a len cap zs) : Ints w a len (zs.take len) := by
  rcases h with ⟨rfl, rfl, rfl, rfl⟩ | ⟨x, rfl, hl, hm, hz, hc, hw⟩
  · exact ⟨rfl, by simp, fun k hk => absurd hk (by omega)⟩
  · refine ⟨by rw [List.length_take]; omega, fun z hz' => i64_bounds (hw z (List.mem_of_mem_take hz')), fun k hk => ?_⟩
    obtain ⟨b, off, rfl, hb, hc'⟩ := row_cells hc (by omega)
    refine ⟨b, off, rfl, hb, ?_⟩
    have e : (zs.take len)[k]?.getD 0 = zs.getD k 0 := by rw [List.getElem?_take_of_lt hk]; simp [List.getD]
    rw [e]
    exact hc' k (by omega)
theorem ints_own {w : World} {base e : Nat} {v : Value} {n : Nat} {zs : List Int} (hz : ∀ z ∈ zs, -9223372036854775808 ≤ z ∧ z ≤ 9223372036854775807) (hl : zs.length = n)
    (h : w.ownsRow base e 1 v n (zs.map (Value.int .i64))) : ∃ A c, v = .slice A n c ∧ Ints w A n zs := by
  obtain ⟨A, c, rfl, _, hc⟩ := own_form h
  refine ⟨A, c, rfl, hl, hz, fun k hk => ?_⟩
  obtain ⟨g, rfl, _, hg, hcell⟩ := hc (by omega)
  refine ⟨g, 0, rfl, hg, ?_⟩
  rw [Nat.zero_add, hcell k hk, List.getElem?_map, List.getElem?_eq_getElem (by omega)]
  rfl

set_option maxHeartbeats 4000000 in
theorem walkAddsRest (a b : Int) (A : Option Addr) (n c : Nat) (zs : List Int) (w : World) (ha : -9223372036854775808 ≤ a ∧ a ≤ 9223372036854775807) (hb : -9223372036854775808 ≤ b ∧ b ≤ 9223372036854775807)
    (hH : Has w A n c (zs.map (Value.int .i64))) (hI : Ints w A n zs) (hn : n * 8 ≤ 140737488351232) (hP : Pows w) (hz : 0 < w.heap.size) (hside : n ≤ 200 ∨ 4096 < n) :
    Calls Tryd.prog 3 #[.int .i64 a, .int .i64 b, .slice A n c] w fun e w' => e = .returned (.bool true) ∧ Below w.heap.size w w' := by
  obtain ⟨i0, hi0, hz0, hz1, hz2⟩ := info_parts intInfo
  have hm : n ≤ maxLen := by unfold maxLen; omega
  have hb0 : Below w.heap.size w (w.alloc (.cells #[] 3)) := (Below.refl _ _).alloc (Nat.le_refl _) _
  have HH := Lib.hid (hH.below hb0); clear hH
  have HI := Lib.hid hI; clear hI
  have HP := Lib.hid hP; clear hP
  rcases hside with hs | hs
  · have hs1 : ¬ (200 : Int) < n := by omega
    have hd : decide ((200 : Int) < n) = false := by simpa using hs1
    go_enter Tryd.func3, Tryd.ntmps3
    go_wp2_with (first
      | (go_at_call 13; refine (add_any _ _ _ ha hb).mono ?_; rintro e w1 ⟨rfl, rfl⟩)
      | (go_at_call 14; refine (refAdd_any _ _ _ ha hb).mono ?_; rintro e w1 ⟨rfl, rfl⟩)
      | (at_builtin; refine wpList_append_has rfl (.tmp 37) (.tmp 38) 22 rfl w.heap.size 3 i0 (.int .i64 0) 8 Tryd.underlying22 hi0 hz0 hz1 hz2 rfl _ 0 [] rfl (own_lit _ _) A n c _ rfl HH.out (by unfold maxLen; omega) (by omega) (by simp) ?_; intro v1 w1 hown1 hg1; have hb1 : Below w.heap.size w w1 := (hb0.grown hg1 (by simp) (fun g hg' => by cases hg'; exact Nat.le_refl _))))
    simp only [Nat.zero_add, List.nil_append] at hown1
    obtain ⟨A1, c1, rfl, hI1⟩ := ints_own HI.out.2.1 HI.out.1 hown1
    clear hown1 hg1
    refine (sum_any A1 n c1 zs w1 hI1 hm).mono ?_
    rintro e w1' ⟨rfl, rfl⟩
    have HI1 := Lib.hid (HI.out.below hb1)
    have HP1 := Lib.hid (HP.out.below hz hb1)
    have hz1' : 0 < w1.heap.size := Nat.lt_of_lt_of_le hz hb1.size
    clear hI1
    go_wp2_with (first
      | (go_at_call 12; refine (awake_any _ HP1.out hz1').mono ?_; rintro e w4 ⟨rfl, hb4⟩)
      | (go_at_call 16; refine (refSum_any _ _ _ _ _ HI1.out hm).mono ?_; rintro e w3 ⟨rfl, rfl⟩)
      | (go_at_call 17; refine (valid_any _ _).mono ?_; rintro e w3 ⟨rfl, rfl⟩)
      | (go_at_call 18; refine (refValid_any _ _).mono ?_; rintro e w3 ⟨rfl, rfl⟩))
    go_ret
    exact ⟨rfl, hb1.trans (hb4.mono hb1.size)⟩
  · have hs1 : (200 : Int) < n := by omega
    have hs2 : ¬ (n : Int) ≤ 4096 := by omega
    have hd : decide ((200 : Int) < n) = true := by simpa using hs1
    have hd2 : decide ((n : Int) ≤ 4096) = false := by simpa using hs2
    go_enter Tryd.func3, Tryd.ntmps3
    go_wp2_with (first
      | (go_at_call 13; refine (add_any _ _ _ ha hb).mono ?_; rintro e w1 ⟨rfl, rfl⟩)
      | (go_at_call 14; refine (refAdd_any _ _ _ ha hb).mono ?_; rintro e w1 ⟨rfl, rfl⟩)
      | (at_builtin; refine wpList_append_has rfl (.tmp 37) (.tmp 38) 22 rfl w.heap.size 3 i0 (.int .i64 0) 8 Tryd.underlying22 hi0 hz0 hz1 hz2 rfl _ 0 [] rfl (own_lit _ _) A n c _ rfl HH.out (by unfold maxLen; omega) (by omega) (by simp) ?_; intro v1 w1 hown1 hg1; have hb1 : Below w.heap.size w w1 := (hb0.grown hg1 (by simp) (fun g hg' => by cases hg'; exact Nat.le_refl _))))
    simp only [Nat.zero_add, List.nil_append] at hown1
    obtain ⟨A1, c1, rfl, hI1⟩ := ints_own HI.out.2.1 HI.out.1 hown1
    clear hown1 hg1
    refine (sum_any A1 n c1 zs w1 hI1 hm).mono ?_
    rintro e w1' ⟨rfl, rfl⟩
    have HI1 := Lib.hid (HI.out.below hb1)
    have HP1 := Lib.hid (HP.out.below hz hb1)
    have hz1' : 0 < w1.heap.size := Nat.lt_of_lt_of_le hz hb1.size
    clear hI1
    go_wp2_with (first
      | (go_at_call 12; refine (awake_any _ HP1.out hz1').mono ?_; rintro e w4 ⟨rfl, hb4⟩)
      | (go_at_call 16; refine (refSum_any _ _ _ _ _ HI1.out hm).mono ?_; rintro e w3 ⟨rfl, rfl⟩)
      | (go_at_call 17; refine (valid_any _ _).mono ?_; rintro e w3 ⟨rfl, rfl⟩)
      | (go_at_call 18; refine (refValid_any _ _).mono ?_; rintro e w3 ⟨rfl, rfl⟩))
    go_ret
    exact ⟨rfl, hb1.trans (hb4.mono hb1.size)⟩

set_option maxHeartbeats 2000000 in
theorem walkAmountAdds (a b : Int) (A : Option Addr) (n c : Nat) (zs : List Int) (w : World) (wa : (Lit.int .i64 a).wf = true) (wb : (Lit.int .i64 b).wf = true) (hr : IsRow .i64 w A n c zs) (hn : n * 8 ≤ 140737488351232) (hP : Pows w) (hz : 0 < w.heap.size) :
    Calls Tryd.prog 3 #[.int .i64 a, .int .i64 b, .slice A n c] w fun e w' => e = .returned (.bool true) ∧ Below w.heap.size w w' := by
  by_cases h : n ≤ 200 ∨ 4096 < n
  · exact walkAddsRest a b A n c _ w (i64_bounds wa) (i64_bounds wb) (has_row hr) (ints_row hr) hn hP hz h
  · have hs1 : (200 : Int) < n := by omega
    have hs2 : (n : Int) ≤ 4096 := by omega
    clear hr h
    go_enter Tryd.func3, Tryd.ntmps3
    go_wp2_with (go_at_call 12; refine (awake_any _ hP hz).mono ?_; rintro e w4 ⟨rfl, hb4⟩)
    go_ret
    exact ⟨rfl, hb4⟩
end Go.Proofs.YtieehofijndelaaDoor
