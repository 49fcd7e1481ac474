/- Walk: the law on unpacking. -/
import Derived.Test.YtieehofijndelabDigAwake
import Derived.Test.YtieehofijndelabDigUnp2
import Derived.Test.YtieehofijndelabLawKit
import Derived.Deep.AppendLies
namespace Go.Proofs.Ytieehofijndelab
open Go.RowKit

theorem bts_row {w : World} {a : Option Addr} {len cap : Nat} {zs : List Int} (h : IsRow .u8 w a len cap zs) : Bts w a len (zs.take len) := by
  rcases h with ⟨rfl, rfl, rfl, rfl⟩ | ⟨x, rfl, hl, hm, hz, hc, hw⟩
  · exact ⟨rfl, by simp, fun k hk => absurd hk (by omega)⟩
  · refine ⟨by rw [List.length_take]; omega, fun z hz' => u8_bounds (hw z (List.mem_of_mem_take hz')), fun k hk => ?_⟩
    obtain ⟨b, off, rfl, hb, hc'⟩ := row_cells hc (by omega)
    refine ⟨b, off, rfl, hb, ?_⟩
    have e : (zs.take len)[k]?.getD 0 = zs.getD k 0 := by rw [List.getElem?_take_of_lt hk]; simp [List.getD]
    rw [e]
    exact hc' k (by omega)

/-- What is owned reads as bytes. -/
theorem bts_ints {w : World} {base e : Nat} {v : Value} {n : Nat} {zs : List Int} (hz : ∀ z ∈ zs, 0 ≤ z ∧ z ≤ 255) (hl : zs.length = n)
    (h : w.ownsRow base e 1 v n (zs.map (Value.int .u8))) : ∃ A c, v = .slice A n c ∧ Bts w A n zs := by
  obtain ⟨A, c, rfl, _, hc⟩ := own_form h
  refine ⟨A, c, rfl, hl, hz, fun k hk => ?_⟩
  obtain ⟨g, rfl, _, hg, hcell⟩ := hc (by omega)
  refine ⟨g, 0, rfl, hg, ?_⟩
  rw [Nat.zero_add, hcell k hk, List.getElem?_map, List.getElem?_eq_getElem (by omega)]
  rfl

set_option maxHeartbeats 4000000 in
theorem walkDigitsUnpack (a : Option Addr) (len cap : Nat) (zs : List Int) (w : World) (hr : IsRow .u8 w a len cap zs) :
    Calls Try.prog 5 #[.slice a len cap] w fun e w' => e = .returned (.bool true) ∧ Below w.heap.size w w' := by
  have hB := bts_row hr
  by_cases hl : 200 < (len : Int)
  · have hm : len ≤ maxLen := by rcases hr with ⟨_, rfl, _⟩ | ⟨x, _, h1, h2, _⟩ <;> omega
    clear hr hB
    unfold maxLen at hm
    go_enter Try.func5, Try.ntmps5
    go_wp2_with (go_at_call 7; refine (awake_any _).mono ?_; rintro e w1 ⟨rfl, hb1⟩)
    go_ret
    exact ⟨rfl, hb1⟩
  · have hm : len ≤ maxLen := by unfold maxLen; omega
    have hlen : (zs.take len).length = len := hB.1
    have hH := has_row hr
    obtain ⟨i0, hi0, hz0, hz1, hz2⟩ := info_parts byteInfo
    have hb0 : Below w.heap.size w (w.alloc (.cells #[] 5)) := (Below.refl _ _).alloc (Nat.le_refl _) _
    have HH := Lib.hid (hH.below hb0); clear hH hr
    have HB := Lib.hid hB; clear hB
    have HL := Lib.hid hlen; clear hlen
    go_enter Try.func5, Try.ntmps5
    go_wp2_with (at_builtin; go_loud (refine wpList_append_has rfl (.tmp 12) (.tmp 13) 28 rfl w.heap.size 5 i0 (.int .u8 0) 1 Try.underlying28 hi0 hz0 hz1 hz2 rfl _ 0 [] rfl (own_lit _ _) a len cap _ rfl HH.out (by unfold maxLen; omega) (by omega) (by simp) ?_); go_loud (intro v1 w1 hown1 hg1; have hb1 : Below w.heap.size w w1 := (hb0.grown hg1 (by simp) (fun g hg' => by cases hg'; exact Nat.le_refl _))))
    simp only [Nat.zero_add, List.nil_append] at hown1
    obtain ⟨A1, c1, rfl, hB1⟩ := bts_ints HB.out.2.1 HL.out hown1
    have hB2 := HB.out.below hb1
    refine (unpack_any _ _ _ _ _ hB1 hm).mono ?_
    rintro e w2 ⟨rfl, hb2⟩
    have HB3 := Lib.hid ((HB.out.below hb1).below hb2)
    clear hown1 hg1 hB1 hB2
    go_wp2_with (first
      | (go_at_call 7; refine (awake_any _).mono ?_; rintro e w4 ⟨rfl, hb4⟩)
      | (go_at_call 14; refine (refUnpack_any _ _ _ _ _ HB3.out hm).mono ?_; rintro e w3 ⟨rfl, hb3⟩))
    go_ret
    have h12 : Below w.heap.size w w2 := hb1.trans (hb2.mono hb1.size)
    have h13 : Below w.heap.size w w3 := h12.trans (hb3.mono h12.size)
    exact ⟨rfl, h13.trans (hb4.mono h13.size)⟩
end Go.Proofs.Ytieehofijndelab
