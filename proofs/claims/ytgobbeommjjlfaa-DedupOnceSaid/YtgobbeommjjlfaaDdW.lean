/- Walks: the reference refuses; Same; the chapter's examples. -/
import Derived.Test.YtgobbeommjjlfaaDdB
namespace Go.Proofs.Ytgobbeommjjlfaa
open Go.RowKit

theorem refAdd_no (A : Option Addr) (n c : Nat) (l : List Rg) (s x : Int) (w : World) (hl : Can l) (hA : RgR w A l) (hn : l.length = n) (hc : n ≤ c) (hm : c ≤ maxLen) (hr : rfs l s x ≠ 0) :
    Calls Try.prog 19 #[.slice A n c, .int .i64 s, .int .i64 x] w fun e w' => e = .returned (.tuple #[.slice none 0 0, .bool false]) ∧ w = w' := by
  cases hi : idB s x
  · have HID := Lib.hid (refIdent_is hi)
    clear hA hn hl hr hi
    go_enter Try.func19, Try.ntmps19
    go_wp2_with (go_at_call 29; (with_reducible refine (HID.out _).mono ?_); rintro e w1 ⟨rfl, rfl⟩)
    go_ret2
    exact ⟨rfl, rfl⟩
  · have HID := Lib.hid (refIdent_is hi)
    have HHS := Lib.hid (refHas_any A n c l s x w hl hA hn hc hm)
    have hh : hasL l s x = true := by
      unfold rfs at hr
      rw [hi] at hr
      cases h : hasL l s x
      · rw [h] at hr; simp at hr
      · rfl
    rw [hh] at HHS
    clear hA hn hl hr hi hh
    go_enter Try.func19, Try.ntmps19
    go_wp2_with (first
      | (go_at_call 29; (with_reducible refine (HID.out _).mono ?_); rintro e w1 ⟨rfl, rfl⟩)
      | (go_at_call 15; (with_reducible refine HHS.out.mono ?_); rintro e w1 ⟨rfl, rfl⟩))
    go_ret2
    exact ⟨rfl, rfl⟩
theorem neqRange_same (a b c : Int) (w : World) : (binOp .neq 44 (.agg #[.int .i64 a, .int .i64 b, .int .i64 c]) (.agg #[.int .i64 a, .int .i64 b, .int .i64 c])).run Try.prog w = .ok (.bool false) w := by rw [neqRange]; simp
set_option maxRecDepth 100000 in
set_option maxHeartbeats 4000000 in
theorem same_eq (A B : Option Addr) (n c d : Nat) (l : List Rg) (w : World) (hA : RgR w A l) (hB : RgR w B l) (hn : l.length = n) (h6 : n ≤ 1000000) :
    Calls Try.prog 20 #[.slice A n c, .slice B n d] w fun e w' => e = .returned (.bool true) ∧ Below w.heap.size w w' := by
  have HA := Lib.hid hA; have HB := Lib.hid hB; have HN := Lib.hid hn
  clear hA hB hn
  go_enter Try.func20, Try.ntmps20
  go_wp2_with fail
  go_loopw [5] (fun iv wr => ∃ k : Nat, iv = .int .i64 k ∧ k ≤ n ∧ Below w.heap.size w wr) (fun iv _ => n - (intOf iv).toNat)
  case atStart => exact ⟨0, rfl, by omega, Below.refl _ _⟩
  case round =>
    obtain ⟨k, rfl, hk, hb⟩ := hrel
    by_cases hlt : k < n
    · have hkl : k < l.length := by rw [HN.out]; exact hlt
      obtain ⟨bk, off, rfl, hbl, g0, g1, g2⟩ := HA.out k hkl
      obtain ⟨bq, ofq, rfl, hbm, f0, f1, f2⟩ := HB.out k hkl
      have e0 := (hb.cell (p := ⟨bk, off + k * 3, none⟩) hbl).trans g0
      have e1 := (hb.cell (p := ⟨bk, off + k * 3 + 1, none⟩) hbl).trans g1
      have e2 := (hb.cell (p := ⟨bk, off + k * 3 + 2, none⟩) hbl).trans g2
      have d0 := (hb.cell (p := ⟨bq, ofq + k * 3, none⟩) hbm).trans f0
      have d1 := (hb.cell (p := ⟨bq, ofq + k * 3 + 1, none⟩) hbm).trans f1
      have d2 := (hb.cell (p := ⟨bq, ofq + k * 3 + 2, none⟩) hbm).trans f2
      have hlt' : (k : Int) < (n : Int) := by omega
      have hk0 : (0 : Int) ≤ (k : Int) := by omega
      obtain ⟨⟨ys, yf, yt⟩, hp⟩ : ∃ z, l.getD k rg0 = z := ⟨_, rfl⟩
      rw [hp] at e0 e1 e2 d0 d1 d2
      simp only at e0 e1 e2 d0 d1 d2
      have nq := neqRange_same ys yf yt
      have gq := guardRange
      clear g0 g1 g2 f0 f1 f2 hp hkl
      go_wp2_with fail
      go_quiet (fail)
      go_wp2_with fail
      go_roundw
      case rel => exact ⟨k + 1, by go_num, by omega, below_drewN hb _⟩
      case measure => simp [intOf]; omega
    · obtain rfl : k = n := by omega
      go_wp2_with fail
      go_ret
      exact ⟨rfl, hb⟩
end Go.Proofs.Ytgobbeommjjlfaa
