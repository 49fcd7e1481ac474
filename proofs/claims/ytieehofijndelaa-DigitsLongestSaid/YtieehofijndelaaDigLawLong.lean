/- Walk: the law on the longest prefix. -/
import Derived.Test.YtieehofijndelaaDigAwake
import Derived.Test.YtieehofijndelaaDigLongR
import Derived.Test.YtieehofijndelaaLawKit
import Derived.Maps.AppendAt
namespace Go.Proofs.Ytieehofijndelaa
open Go.RowKit

theorem strInfo : (Try.prog.info? 9).map (fun i => (i.zero, i.size, i.bytes)) = some (some (.string ByteArray.empty), 1, 16) := by kernel_rfl
theorem strs_row {w : World} {a : Option Addr} {len cap : Nat} {zs : List ByteArray} (h : IsStrs w a len cap zs) : Strs w a len (zs.take len) := by
  rcases h with ⟨rfl, rfl, rfl, rfl⟩ | ⟨x, rfl, hl, hm, hz, hc, hw⟩
  · exact ⟨rfl, fun k hk => absurd hk (by omega)⟩
  · refine ⟨by rw [List.length_take]; omega, fun k hk => ?_⟩
    obtain ⟨b, off, rfl, hb, hc'⟩ := row_cells hc (by omega)
    refine ⟨b, off, rfl, hb, ?_⟩
    have e : (zs.take len)[k]?.getD ByteArray.empty = zs.getD k ByteArray.empty := by rw [List.getElem?_take_of_lt hk]; simp [List.getD]
    rw [e]
    exact hc' k (by omega)
theorem strs_own {w : World} {base e : Nat} {v : Value} {n : Nat} {zs : List ByteArray} (hl : zs.length = n)
    (h : w.ownsRow base e 1 v n (zs.map Value.string)) : ∃ A c, v = .slice A n c ∧ Strs w A n zs := by
  obtain ⟨A, c, rfl, _, hc⟩ := own_form h
  refine ⟨A, c, rfl, hl, fun k hk => ?_⟩
  obtain ⟨g, rfl, _, hg, hcell⟩ := hc (by omega)
  refine ⟨g, 0, rfl, hg, ?_⟩
  rw [Nat.zero_add, hcell k hk, List.getElem?_map, List.getElem?_eq_getElem (by omega)]
  rfl

set_option maxHeartbeats 8000000 in
theorem walkDigitsLongest (s : ByteArray) (a : Option Addr) (n c : Nat) (zs : List ByteArray) (q : ByteArray) (w : World) (hs : s.size ≤ maxLen) (hr : IsStrs w a n c zs) (hq : q.size ≤ maxLen) :
    Calls Try.prog 5 #[.string s, .slice a n c, .string q] w fun e w' => e = .returned (.bool true) ∧ Below w.heap.size w w' := by
  have hS := strs_row hr
  have hH := has_strs hr
  have hm : n ≤ maxLen := by rcases hr with ⟨_, rfl, _⟩ | ⟨x, _, h1, h2, _⟩ <;> omega
  have hall : ∀ p ∈ zs.take n, p.size ≤ maxLen := by
    rcases hr with ⟨_, _, _, rfl⟩ | ⟨x, _, _, _, _, _, h6⟩
    · simp
    · exact fun p hp => h6 p (List.mem_of_mem_take hp)
  clear hr
  obtain ⟨ps, hps⟩ : ∃ ps, zs.take n = ps := ⟨_, rfl⟩
  rw [hps] at hS hH hall
  clear hps
  unfold maxLen at hs hq hm hall
  by_cases hl : 200 < (s.size : Int)
  · go_enter Try.func5, Try.ntmps5
    go_wp2_with (go_at_call 6; refine (awake_any _).mono ?_; rintro e w1 ⟨rfl, hb1⟩)
    go_ret
    exact ⟨rfl, hb1⟩
  · by_cases hl2 : 200 < (n : Int)
    · go_enter Try.func5, Try.ntmps5
      go_wp2_with (go_at_call 6; refine (awake_any _).mono ?_; rintro e w1 ⟨rfl, hb1⟩)
      go_ret
      exact ⟨rfl, hb1⟩
    · by_cases hl3 : 200 < (q.size : Int)
      · go_enter Try.func5, Try.ntmps5
        go_wp2_with (go_at_call 6; refine (awake_any _).mono ?_; rintro e w1 ⟨rfl, hb1⟩)
        go_ret
        exact ⟨rfl, hb1⟩
      · go_enter Try.func5, Try.ntmps5
        go_wp2
        go_loop [7] (fun i => ∃ k : Nat, k ≤ n ∧ i = .int .i64 k ∧ Hid (∀ j, j < k → (ps[j]?.getD ByteArray.empty).size ≤ 200)) (fun i => n - (intOf i).toNat)
        case atStart => exact ⟨0, by omega, rfl, Lib.hid fun j hj => absurd hj (by omega)⟩
        case round =>
          obtain ⟨k, hk, rfl, HJ⟩ := hrel
          by_cases hlt : k < n
          · obtain ⟨b, off, rfl, hbl, hc⟩ := hS.2 k hlt
            have hqs : (ps[k]?.getD ByteArray.empty).size ≤ 9223372036854775807 := by
              have hl : k < ps.length := by rw [hS.1]; exact hlt
              rw [List.getElem?_eq_getElem hl]
              exact hall _ (List.getElem_mem hl)
            obtain ⟨p, hp⟩ : ∃ p, ps[k]?.getD ByteArray.empty = p := ⟨_, rfl⟩
            rw [hp] at hc hqs
            have HP := Lib.hid hp
            clear hS hH hall hp
            by_cases hlong : 200 < (p.size : Int)
            · go_wp2_with (go_at_call 6; refine (awake_any _).mono ?_; rintro e w1 ⟨rfl, hb1⟩)
              go_ret
              exact ⟨rfl, hb1⟩
            · go_wp2
              go_round
              case rel =>
                refine ⟨k + 1, by omega, by go_num, Lib.hid fun j hj => ?_⟩
                by_cases h : j = k
                · subst h; rw [HP.out]; omega
                · exact HJ.out j (by omega)
              case measure => simp [intOf]; omega
          · obtain rfl : k = n := by omega
            have hsmall : ∀ p ∈ ps, p.size ≤ 65536 := by
              intro p hp
              obtain ⟨j, hj, rfl⟩ := List.getElem_of_mem hp
              have := HJ.out j (by rw [← hS.1]; exact hj)
              rw [List.getElem?_eq_getElem hj] at this
              simp at this
              omega
            have hlen := hS.1
            have hinv := longTo_inv s ps k
            have hlast := longTo_last s ps q
            have hcases := longStep_cases s q k (longTo s ps k)
            rw [hlen] at hlast
            obtain ⟨i0, hi0, hz0, hz1, hz2⟩ := info_parts strInfo
            have hb0 : Below w.heap.size w (w.alloc (.cells #[] 9)) := (Below.refl _ _).alloc (Nat.le_refl _) _
            have HH := Lib.hid (hH.below hb0)
            have HH0 := Lib.hid hH
            have HS := Lib.hid hS
            have HM := Lib.hid hsmall
            have HL := Lib.hid hlen
            have hsmall2 : ∀ p ∈ ps ++ [q], p.size ≤ 65536 := by
              intro p hp
              rcases List.mem_append.1 hp with h | h
              · exact hsmall p h
              · simp at h; subst h; omega
            have HM2 := Lib.hid hsmall2
            clear hH hS hall hsmall hlen hsmall2
            have HI := Lib.hid hinv
            have HT := Lib.hid hlast
            have HC := Lib.hid hcases
            clear hinv hlast hcases
            go_wp2_with (at_builtin; refine wpList_append_has rfl (.tmp 38) (.tmp 39) 27 rfl w.heap.size 9 i0 (.string ByteArray.empty) 16 Try.underlying27 hi0 hz0 hz1 hz2 rfl _ 0 [] rfl (own_lit _ _) a k c _ rfl HH.out (by unfold maxLen; omega) (by omega) (by simp) ?_; intro v1 w1 hown1 hg1; have hb1 : Below w.heap.size w w1 := (hb0.grown hg1 (by simp) (fun g hg' => by cases hg'; exact Nat.le_refl _)))
            simp only [Nat.zero_add, List.nil_append] at hown1
            obtain ⟨A1, c1, rfl, hS1⟩ := strs_own HL.out hown1
            clear hown1 hg1
            refine (longest_any s A1 k c1 ps w1 hS1 (by omega) HM.out).mono ?_
            rintro e w1' ⟨rfl, rfl⟩
            have hb1' : Below w1.heap.size w1 (w1.alloc (.cells #[] 9)) := (Below.refl _ _).alloc (Nat.le_refl _) _
            have HHb := Lib.hid ((HH0.out.below hb1).below hb1')
            have hsz1 := hb1.size
            go_wp2_with (first
              | (at_builtin; refine wpList_append_has rfl (.tmp 43) (.tmp 44) 27 rfl w1.heap.size 9 i0 (.string ByteArray.empty) 16 Try.underlying27 hi0 hz0 hz1 hz2 rfl _ 0 [] rfl (own_lit _ _) a k c _ rfl HHb.out (by unfold maxLen; omega) (by omega) (by simp) ?_; intro v2 w2 hown2 hg2; have hb2 : Below w1.heap.size w1 w2 := (hb1'.grown hg2 (by simp) (fun g hg' => by cases hg'; exact Nat.le_refl _)); have hsz2 := hb2.size)
              | (at_builtin; refine wpList_append_own _ rfl (.tmp 45) (.tmp 47) 27 rfl w1.heap.size 9 i0 (.string ByteArray.empty) 1 16 Try.underlying27 hi0 hz0 hz1 hz2 rfl (by decide) _ _ _ rfl (World.ownsRow.alloc hown2 _) ⟨w2.heap.size, 0, none⟩ 1 1 [.string q] rfl rfl (cell_one_new _ _ _) (by intro u hu; simp at hu; subst hu; rfl) (by unfold maxLen; omega) (by omega) (by simp; omega) ?_; intro v3 w3 hown3 hg3 _; have hb3 : Below w1.heap.size w1 w3 := ((hb2.alloc hsz2 _).grown hg3 (by simp; omega) (fun g hg' => (World.ownsRow.lt hown2 g hg').1))))
            have hown4 : w3.ownsRow w1.heap.size 9 1 v3 (k + 1) ((ps ++ [q]).map Value.string) := by
              rw [List.map_append]; simpa using hown3
            obtain ⟨A3, c3, rfl, hS3⟩ := strs_own (by rw [List.length_append, HL.out]; rfl) hown4
            have hSo := Lib.hid ((HS.out.below hb1).below hb3)
            clear hown2 hown3 hown4 hg2 hg3
            have h3 : Calls Try.prog 13 #[.string s, .slice A3 (k + 1) c3] w3 fun e w' => e = .returned (.int .i64 (longStep s q k (longTo s ps k)).1) ∧ w3 = w' := by
              refine (longest_any s A3 (k + 1) c3 (ps ++ [q]) w3 hS3 (by omega) HM2.out).mono fun e w' ⟨he, hw⟩ => ⟨?_, hw⟩
              rw [he, HT.out]
            refine h3.mono ?_
            rintro e w3' ⟨rfl, rfl⟩
            have hb13 : Below w.heap.size w w3 := hb1.trans (hb3.mono hb1.size)
            clear h3 hS3 hS1
            have hR := Lib.hid (refLongest_any s a k c ps w3 hSo.out (by omega) (by omega) HM.out)
            have hbd := longTo_bounds s ps k
            rcases HC.out with h | ⟨h, hpre⟩
            · rw [h]
              generalize (longTo s ps k).1 = r at *
              clear h
              go_wp2_with (first
                | (go_at_call 6; refine (awake_any _).mono ?_; rintro e w5 ⟨rfl, hb5⟩)
                | (go_at_call 14; refine hR.out.mono ?_; rintro e w4 ⟨rfl, hb4⟩))
              go_ret
              have g4 : Below w.heap.size w w4 := hb13.trans (hb4.mono hb13.size)
              exact ⟨rfl, g4.trans (hb5.mono g4.size)⟩
            · rw [h]
              have hlt1 : (longTo s ps k).1 < k := by
                rcases HI.out with h | ⟨j, hj, h⟩ <;> rw [h] <;> simp <;> omega
              have H5 := Lib.hid (hasPrefix_any s q w3)
              generalize (longTo s ps k).1 = r at *
              have h6 : ((k : Int) != r) = true := by simp; omega
              have h7 : ((k : Int) == r) = false := by simp; omega
              clear h
              go_wp2_with fail
              refine hR.out.mono ?_
              rintro e w4 ⟨rfl, hb4⟩
              have g4 : Below w.heap.size w w4 := hb13.trans (hb4.mono hb13.size)
              go_wp2_with (first
                | (go_at_call 6; refine (awake_any _).mono ?_; rintro e w5 ⟨rfl, hb5⟩)
                | (go_at_call 9; refine (hasPrefix_any _ _ _).mono ?_; rintro e w6 ⟨rfl, rfl⟩))
              go_ret
              exact ⟨rfl, g4.trans (hb5.mono g4.size)⟩
end Go.Proofs.Ytieehofijndelaa
