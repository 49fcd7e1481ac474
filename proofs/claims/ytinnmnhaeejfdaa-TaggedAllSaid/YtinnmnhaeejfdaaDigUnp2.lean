/- Walk: unpacking digits in the reference. -/
import Derived.Test.YtinnmnhaeejfdaaDigUnp
import Derived.Deep.QuietTactic
import Derived.BigQuiet
namespace Go.Proofs.Ytinnmnhaeejfdaa
open Go.RowKit

set_option maxHeartbeats 2000000 in
theorem refUnpack_any (A : Option Addr) (n c : Nat) (zs : List Int) (w : World) (hA : Bts w A n zs) (hn : n ≤ maxLen) :
    Calls Try.prog 46 #[.slice A n c] w fun e w' => e = .returned (.tuple #[.string (S (unpL zs)), .int .i64 (unpE zs)]) ∧ Below w.heap.size w w' := by
  unfold maxLen at hn
  go_enter Try.func46, Try.ntmps46
  go_wp2
  go_loopw [4, 5] (fun v i wr => ∃ k : Nat, k ≤ n ∧ k ≤ 16 ∧ i = .int .i64 k ∧ v = .string (S (unpTo zs n k)) ∧ Below w.heap.size w wr) (fun _ i _ => 16 - (intOf i).toNat)
  case atStart => exact ⟨0, by omega, by omega, rfl, rfl, Below.refl _ _⟩
  case round =>
    obtain ⟨k, hk, hk2, rfl, rfl, hb⟩ := hrel
    have hsz := hb.size
    by_cases hlt : k < n ∧ k ≤ 15
    · obtain ⟨hlt, hl15⟩ := hlt
      obtain ⟨b, off, rfl, hbl, hc⟩ := hA.2.2 k hlt
      have hz := hA.range k hlt
      have hc' := (hb.cell (p := ⟨b, off + k, none⟩) hbl).trans hc
      have HA := Lib.hid hA
      clear hA hc
      obtain ⟨z, hzz⟩ : ∃ z, zs[k]?.getD 0 = z := ⟨_, rfl⟩
      rw [hzz] at hz hc'
      have HZ := Lib.hid hzz; clear hzz
      have h15 := and15 z hz.1 hz.2
      have hlen := unpTo_length zs n k
      have hadd : ∀ (l m : List UInt8) (wx : World), l.length ≤ 64 → m.length ≤ 64 → (Op.stringOp .add (S l) (S m)).run Try.prog wx = .ok (.string (S (l ++ m))) wx := fun l m wx h1 h2 => by
        rw [run_string_add_sum wx _ _ (by rw [S_size, S_size]; omega), S_append]
      have HADD := Lib.hid hadd; clear hadd
      cases hlow : noLow z n k with
      | true =>
        have h1 : (z % 16 != 15) = false := by simp [noLow] at hlow; simp; omega
        have h2 : ¬ (k : Int) < (n : Int) - 1 := by simp [noLow] at hlow; omega
        have HE := Lib.hid (unpTo_one (zs := zs) HZ.out hlow); clear hlow
        have ha1 := fun wx => HADD.out (unpTo zs n k) [b8 (48 + z / 16)] wx (by omega) (by simp)
        go_wp2
        go_quiet (fail)
        have hcv1 : (convert 25 9 (.slice (some ⟨wr.heap.size, 0, none⟩) 1 1)).run Try.prog ((wr.drewN nq).alloc (.cells #[.int .u8 (48 + z / 16)] 5)) = .ok (.string (S [b8 (48 + z / 16)])) ((wr.drewN nq).alloc (.cells #[.int .u8 (48 + z / 16)] 5)) :=
          conv_one (wr.drewN nq) _ _ _ Try.underlying25 Try.underlying5 Try.underlying9 _ (by omega) (by omega)
        go_wp2
        go_roundw
        case rel => exact ⟨k + 1, by omega, by omega, by go_num, by rw [HE.out], (below_drewN hb nq).alloc hsz _⟩
        case measure => simp [intOf]; omega
      | false =>
        have HE := Lib.hid (unpTo_two (zs := zs) HZ.out hlow)
        have ha1 := fun wx => HADD.out (unpTo zs n k) [b8 (48 + z / 16)] wx (by omega) (by simp)
        have ha2 := fun wx => HADD.out (unpTo zs n k ++ [b8 (48 + z / 16)]) [b8 (48 + z % 16)] wx (by simp; omega) (by simp)
        by_cases h1 : z % 16 = 15
        · have h2 : (k : Int) < (n : Int) - 1 := by simp [noLow, h1] at hlow; omega
          have h1' : (z % 16 != 15) = false := by simpa using h1
          clear h1 hlow
          go_wp2
          go_quiet (fail)
          have hcv1 : (convert 25 9 (.slice (some ⟨wr.heap.size, 0, none⟩) 1 1)).run Try.prog ((wr.drewN nq).alloc (.cells #[.int .u8 (48 + z / 16)] 5)) = .ok (.string (S [b8 (48 + z / 16)])) ((wr.drewN nq).alloc (.cells #[.int .u8 (48 + z / 16)] 5)) :=
            conv_one (wr.drewN nq) _ _ _ Try.underlying25 Try.underlying5 Try.underlying9 _ (by omega) (by omega)
          have hcv2 : (convert 25 9 (.slice (some ⟨wr.heap.size + 1, 0, none⟩) 1 1)).run Try.prog (((wr.drewN nq).alloc (.cells #[.int .u8 (48 + z / 16)] 5)).alloc (.cells #[.int .u8 (48 + z % 16)] 5)) = .ok (.string (S [b8 (48 + z % 16)])) (((wr.drewN nq).alloc (.cells #[.int .u8 (48 + z / 16)] 5)).alloc (.cells #[.int .u8 (48 + z % 16)] 5)) := by
            have := conv_one (P := Try.prog) ((wr.drewN nq).alloc (.cells #[.int .u8 (48 + z / 16)] 5)) _ _ _ Try.underlying25 Try.underlying5 Try.underlying9 (48 + z % 16) (by omega) (by omega)
            simpa using this
          go_wp2
          go_roundw
          case rel => exact ⟨k + 1, by omega, by omega, by go_num, by rw [HE.out, List.append_assoc]; rfl, ((below_drewN hb nq).alloc hsz _).alloc (by simp; omega) _⟩
          case measure => simp [intOf]; omega
        · have h1' : (z % 16 != 15) = true := by simpa using h1
          clear h1 hlow
          go_wp2
          go_quiet (fail)
          have hcv1 : (convert 25 9 (.slice (some ⟨wr.heap.size, 0, none⟩) 1 1)).run Try.prog ((wr.drewN nq).alloc (.cells #[.int .u8 (48 + z / 16)] 5)) = .ok (.string (S [b8 (48 + z / 16)])) ((wr.drewN nq).alloc (.cells #[.int .u8 (48 + z / 16)] 5)) :=
            conv_one (wr.drewN nq) _ _ _ Try.underlying25 Try.underlying5 Try.underlying9 _ (by omega) (by omega)
          have hcv2 : (convert 25 9 (.slice (some ⟨wr.heap.size + 1, 0, none⟩) 1 1)).run Try.prog (((wr.drewN nq).alloc (.cells #[.int .u8 (48 + z / 16)] 5)).alloc (.cells #[.int .u8 (48 + z % 16)] 5)) = .ok (.string (S [b8 (48 + z % 16)])) (((wr.drewN nq).alloc (.cells #[.int .u8 (48 + z / 16)] 5)).alloc (.cells #[.int .u8 (48 + z % 16)] 5)) := by
            have := conv_one (P := Try.prog) ((wr.drewN nq).alloc (.cells #[.int .u8 (48 + z / 16)] 5)) _ _ _ Try.underlying25 Try.underlying5 Try.underlying9 (48 + z % 16) (by omega) (by omega)
            simpa using this
          go_wp2
          go_roundw
          case rel => exact ⟨k + 1, by omega, by omega, by go_num, by rw [HE.out, List.append_assoc]; rfl, ((below_drewN hb nq).alloc hsz _).alloc (by simp; omega) _⟩
          case measure => simp [intOf]; omega
    · have hS := S_toList
      have hlow := unpTo_low zs n k hk
      have hlen := unpTo_length zs n k
      have hSs : (S (unpTo zs n k)).size = (unpTo zs n k).length := S_size _
      have hzl : zs.length = n := hA.1
      cases hv : numB (unpTo zs n k) with
      | true =>
        have hl15 : (unpTo zs n k).length ≤ 15 := by
          simp only [numB, Bool.and_eq_true, decide_eq_true_eq] at hv; exact hv.1.2
        have hn8 : n ≤ 8 := by omega
        obtain rfl : k = n := by omega
        have HF := Lib.hid (unp_good (zs := zs) (by omega) (by rw [hzl]; exact hv))
        have HZL := Lib.hid hzl; clear hzl
        have hl2 : 2 * (k : Int) ≤ (unpTo zs k k).length + 1 := by omega
        clear hlow hlt
        go_wp2_with (go_at_call 44; refine (refValid_any _ _ ?hq).mono ?_; (case hq => (rw [S_size]; unfold maxLen; omega)); rintro e w1 ⟨rfl, rfl⟩)
        all_goals
          go_ret2
          exact ⟨ret_pair (by rw [HF.out.1, HZL.out]) HF.out.2.symm, hb⟩
      | false =>
        have hbad : unpL zs = [] ∧ unpE zs = 12 := by
          by_cases h8 : n ≤ 8
          · have e : k = n := by omega
            exact unp_bad (by rw [hzl, ← e]; rw [← e] at hv; exact hv)
          · exact unp_long (by omega)
        have HF := Lib.hid hbad
        clear hzl hlow hbad
        by_cases hkn : k < n
        all_goals
          go_wp2_with (go_at_call 44; refine (refValid_any _ _ ?hq).mono ?_; (case hq => (rw [S_size]; unfold maxLen; omega)); rintro e w1 ⟨rfl, rfl⟩)
          go_ret2
          exact ⟨ret_pair (by rw [HF.out.1]; rfl) HF.out.2.symm, hb⟩
end Go.Proofs.Ytinnmnhaeejfdaa
