/- Walk: the sum of the weights, or what is wrong with them. -/
import Derived.Test.YtopngdjhnljmfaaDoorSplM
import Derived.Test.YtopngdjhnljmfaaDoorAmtMag
import Derived.Test.YtopngdjhnljmfaaDoorAmtV
namespace Go.Proofs.YtopngdjhnljmfaaDoor
open Go.RowKit St

def twE (a : Int) (ws : List Int) : Int := if decide (ws.length ≤ 64) then (if okA a then (if ws.all okU then (if ws.sum = 0 then 8 else 0) else 6) else 6) else 5
def twV (a : Int) (ws : List Int) : Int := if twE a ws = 0 then ws.sum else 0
theorem tw_long {a : Int} {ws : List Int} (h : 64 < ws.length) : twE a ws = 5 ∧ twV a ws = 0 := by
  have e : twE a ws = 5 := by
    unfold twE
    rw [if_neg (by simp; omega)]
  exact ⟨e, by unfold twV; rw [e]; rfl⟩
theorem tw_badA {a : Int} {ws : List Int} (h : ws.length ≤ 64) (ha : okA a = false) : twE a ws = 6 ∧ twV a ws = 0 := by
  have e : twE a ws = 6 := by
    unfold twE
    rw [if_pos (by simpa using h), ha]; rfl
  exact ⟨e, by unfold twV; rw [e]; rfl⟩
theorem tw_badW {a : Int} {ws : List Int} (h : ws.length ≤ 64) (ha : okA a = true) (hw : ws.all okU = false) : twE a ws = 6 ∧ twV a ws = 0 := by
  have e : twE a ws = 6 := by
    unfold twE
    rw [if_pos (by simpa using h), ha, hw]; rfl
  exact ⟨e, by unfold twV; rw [e]; rfl⟩
theorem tw_none {a : Int} {ws : List Int} (h : ws.length ≤ 64) (ha : okA a = true) (hw : ws.all okU = true) (hs : ws.sum = 0) : twE a ws = 8 ∧ twV a ws = 0 := by
  have e : twE a ws = 8 := by
    unfold twE
    rw [if_pos (by simpa using h), ha, hw, hs]; rfl
  exact ⟨e, by unfold twV; rw [e]; rfl⟩
theorem tw_good {a : Int} {ws : List Int} (h : ws.length ≤ 64) (ha : okA a = true) (hw : ws.all okU = true) (hs : ws.sum ≠ 0) : twE a ws = 0 ∧ twV a ws = ws.sum := by
  have e : twE a ws = 0 := by
    unfold twE
    rw [if_pos (by simpa using h), ha, hw]; simp [hs]
  exact ⟨e, by unfold twV; rw [e]; rfl⟩
theorem usum_bound {l : List Int} (h : l.all okU = true) : 0 ≤ l.sum ∧ l.sum ≤ 1099511627776 * (l.length : Int) := by
  rw [List.all_eq_true] at h
  exact ⟨sum_ge_of fun x hx => (okU_iff.1 (h x hx)).1, sum_le_of fun x hx => (okU_iff.1 (h x hx)).2⟩
theorem all_badU {zs : List Int} {k : Nat} (hk : k < zs.length) (h : okU (zs[k]?.getD 0) = false) : zs.all okU = false := by
  rw [List.getElem?_eq_getElem hk] at h
  exact List.all_eq_false.2 ⟨_, List.getElem_mem hk, by simp only [Option.getD_some] at h; simp [h]⟩
theorem wrap_u64 {x : Int} (h0 : 0 ≤ x) (h1 : x ≤ 18446744073709551615) : IntKind.u64.wrap x = x := by
  simp [IntKind.wrap, IntKind.signed, IntKind.bits]
  omega
theorem ret_uint_int {x y : Int} {x' y' : Int} (h1 : x = x') (h2 : y = y') : Ending.returned (.tuple #[.int .u64 x, .int .i64 y]) = Ending.returned (.tuple #[.int .u64 x', .int .i64 y']) := by rw [h1, h2]
set_option maxHeartbeats 2000000 in
theorem totalWeight_any (a : Int) (A : Option Addr) (n c : Nat) (zs : List Int) (w : World) (hA : Ints w A n zs) (hn : n ≤ maxLen) :
    Calls Tryd.prog 15 #[.int .i64 a, .slice A n c] w fun e w' => e = .returned (.tuple #[.int .u64 (twV a zs), .int .i64 (twE a zs)]) ∧ w = w' := by
  unfold maxLen at hn
  by_cases hl : 64 < n
  · have HF := Lib.hid (tw_long (a := a) (ws := zs) (by rw [hA.1]; exact hl))
    have hl' : (64 : Int) < (n : Int) := by omega
    clear hA
    go_enter Tryd.func15, Tryd.ntmps15
    go_wp2
    go_ret2
    exact ⟨ret_uint_int HF.out.2.symm HF.out.1.symm, rfl⟩
  cases hoa : okA a with
  | false =>
    have HF := Lib.hid (tw_badA (a := a) (ws := zs) (by rw [hA.1]; omega) hoa)
    have HV := Lib.hid (valid_any a w)
    rw [hoa] at HV
    clear hA hoa
    go_enter Tryd.func15, Tryd.ntmps15
    go_wp2_with (go_at_call 21; refine HV.out.mono ?_; rintro e w1 ⟨rfl, rfl⟩)
    go_ret2
    exact ⟨ret_uint_int HF.out.2.symm HF.out.1.symm, rfl⟩
  | true =>
    have HOA := Lib.hid hoa
    have HV := Lib.hid (valid_any a w)
    rw [hoa] at HV
    clear hoa
    have HA := Lib.hid hA
    have HZL := Lib.hid hA.1
    clear hA
    go_enter Tryd.func15, Tryd.ntmps15
    go_wp2_with (go_at_call 21; refine HV.out.mono ?_; rintro e w1 ⟨rfl, rfl⟩)
    go_loop [6, 17] (fun v i => ∃ k : Nat, k ≤ n ∧ i = .int .i64 k ∧ Hid ((zs.take k).all okU = true) ∧ v = .int .i64 (zs.take k).sum) (fun _ i => n - (intOf i).toNat)
    case atStart => exact ⟨0, by omega, rfl, Lib.hid rfl, rfl⟩
    case round =>
      obtain ⟨k, hk, rfl, H, rfl⟩ := hrel
      have hsb := usum_bound H.out
      rw [show (zs.take k).length = k by rw [List.length_take, HZL.out]; omega] at hsb
      by_cases hlt : k < n
      · obtain ⟨b, off, rfl, hbl, hc⟩ := HA.out.2.2 k hlt
        have hts := take_step zs k (by rw [HZL.out]; exact hlt)
        have hbad := all_badU (zs := zs) (k := k) (by rw [HZL.out]; exact hlt)
        obtain ⟨z, hz⟩ : ∃ z, zs[k]?.getD 0 = z := ⟨_, rfl⟩
        rw [hz] at hc hts hbad
        have HT := Lib.hid hts
        clear hz hts
        have HU := Lib.hid (validUnits_any z w)
        cases hok : okU z with
        | false =>
          have HF := Lib.hid (tw_badW (a := a) (ws := zs) (by rw [HZL.out]; omega) HOA.out (hbad hok))
          rw [hok] at HU
          clear hbad hok
          go_wp2_with (go_at_call 22; refine HU.out.mono ?_; rintro e w1 ⟨rfl, rfl⟩)
          go_ret2
          exact ⟨ret_uint_int HF.out.2.symm HF.out.1.symm, rfl⟩
        | true =>
          have hzb := okU_iff.1 hok
          rw [hok] at HU
          obtain ⟨t, ht⟩ : ∃ t, (zs.take k).sum = t := ⟨_, rfl⟩
          rw [ht] at hsb ⊢
          have HS := Lib.hid ht; clear ht
          have HO := Lib.hid hok
          clear hbad hok
          go_wp2_with (go_at_call 22; refine HU.out.mono ?_; rintro e w1 ⟨rfl, rfl⟩)
          go_round
          case rel => exact ⟨k + 1, by omega, by go_num, Lib.hid (by rw [HT.out, List.all_append, H.out]; simp [HO.out]), by rw [HT.out, List.sum_append, HS.out]; simp⟩
          case measure => simp [intOf]; omega
      · obtain rfl : k = n := by omega
        have htk : zs.take k = zs := List.take_of_length_le (by rw [HZL.out]; omega)
        rw [htk] at H hsb ⊢
        clear htk
        obtain ⟨s, hs⟩ : ∃ s, zs.sum = s := ⟨_, rfl⟩
        by_cases h0 : s = 0
        · subst h0
          have HF := Lib.hid (tw_none (a := a) (ws := zs) (by rw [HZL.out]; omega) HOA.out H.out hs)
          rw [hs]
          clear hs hsb
          go_wp2
          go_ret2
          exact ⟨ret_uint_int HF.out.2.symm HF.out.1.symm, rfl⟩
        · have HF := Lib.hid (tw_good (a := a) (ws := zs) (by rw [HZL.out]; omega) HOA.out H.out (by rw [hs]; exact h0))
          rw [hs] at hsb ⊢
          have hw := wrap_u64 (x := s) hsb.1 (by omega)
          have HS := Lib.hid hs
          clear hs
          have hd : decide (s = 0) = false := decide_eq_false h0
          go_wp2
          go_ret2
          exact ⟨ret_uint_int (by rw [HF.out.2, HS.out]) HF.out.1.symm, rfl⟩
end Go.Proofs.YtopngdjhnljmfaaDoor
