/- Walk: the longest prefix in the reference. -/
import Derived.Test.YtieehofijndelaaDigNorm
import Derived.Test.YtieehofijndelaaDigLongM
import Derived.Deep.QuietTactic
import Derived.BigQuiet
import Derived.WalkSmall
namespace Go.Proofs.Ytieehofijndelaa
open Go.RowKit

theorem refHasPrefixLit (a b : ByteArray) (p : Bool) (h : Lib.hasPrefix a.data.toList b.data.toList = p) (ha : a.size ≤ maxLen) (hb : b.size ≤ maxLen) (w : World) :
    Calls Try.prog 10 #[.string a, .string b] w fun e w' => e = .returned (.bool p) ∧ w' = w := by
  subst h; exact (refHasPrefix_any a b w ha hb).mono fun _ _ ⟨he, hw⟩ => ⟨he, hw.symm⟩

set_option maxHeartbeats 2000000 in
theorem refLongest_any (s : ByteArray) (A : Option Addr) (n c : Nat) (ps : List ByteArray) (w : World) (hA : Strs w A n ps) (hs : s.size ≤ 65536) (hn : n ≤ 65536) (hps : ∀ p ∈ ps, p.size ≤ 65536) :
    Calls Try.prog 14 #[.string s, .slice A n c] w fun e w' => e = .returned (.int .i64 (longTo s ps n).1) ∧ Below w.heap.size w w' := by
  have hs' : s.size ≤ maxLen := by unfold maxLen; omega
  go_enter Try.func14, Try.ntmps14
  go_wp2
  go_loopw [5, 6] (fun p i wr => ∃ k : Nat, k ≤ n ∧ i = .int .i64 k ∧ p = .int .i64 (longTo s ps k).1 ∧ Below w.heap.size w wr) (fun _ i _ => n - (intOf i).toNat)
  case atStart => exact ⟨0, by omega, rfl, rfl, Below.refl _ _⟩
  case round =>
    obtain ⟨k, hk, rfl, rfl, hb⟩ := hrel
    by_cases hlt : k < n
    · have hsz : ∀ j, j < n → (ps[j]?.getD ByteArray.empty).size ≤ 65536 := by
        intro j hj
        have hl : j < ps.length := by rw [hA.1]; exact hj
        rw [List.getElem?_eq_getElem hl]
        exact hps _ (List.getElem_mem hl)
      obtain ⟨b, off, rfl, hbl, hc⟩ := hA.2 k hlt
      have hc' := (hb.cell (p := ⟨b, off + k, none⟩) hbl).trans hc
      have hqs := hsz k hlt
      have hstep : longTo s ps (k + 1) = longStep s (ps[k]?.getD ByteArray.empty) k (longTo s ps k) := rfl
      have hinv := longTo_inv s ps k
      obtain ⟨q, hq⟩ : ∃ q, ps[k]?.getD ByteArray.empty = q := ⟨_, rfl⟩
      rw [hq] at hc' hqs hstep
      have HP := Lib.hid hps
      clear hps hq hc
      cases h2 : Lib.hasPrefix s.data.toList q.data.toList with
      | false =>
        rw [longStep_miss h2] at hstep
        have HS := Lib.hid hstep
        have H1 := Lib.hid (refHasPrefixLit s q _ h2 hs' (by unfold maxLen; omega))
        clear hstep hinv h2 hsz hA
        generalize longTo s ps k = r at *
        go_wp2
        go_quiet ((go_at_call 10; exact Calls.quiet_of_same (H1.out _)))
        go_wp2
        go_roundw
        case rel => exact ⟨k + 1, by omega, by go_num, by rw [HS.out], below_drewN hb _⟩
        case measure => simp [intOf]; omega
      | true =>
        have H1 := Lib.hid (refHasPrefixLit s q _ h2 hs' (by unfold maxLen; omega))
        rcases hinv with hr | ⟨j, hj, hr⟩
        · rw [hr] at hstep
          rw [longStep_hit (by simp; omega) h2] at hstep
          have HS := Lib.hid hstep
          rw [hr]
          clear hstep hr h2 hsz hA
          go_wp2
          go_quiet ((go_at_call 10; exact Calls.quiet_of_same (H1.out _)))
          go_wp2
          go_roundw
          case rel => exact ⟨k + 1, by omega, by go_num, by rw [HS.out], below_drewN hb _⟩
          case measure => simp [intOf]; omega
        · obtain ⟨b2, off2, he, hbl2, hc2⟩ := hA.2 j (by omega)
          cases he
          have hc2' := (hb.cell (p := ⟨b, off + j, none⟩) hbl2).trans hc2
          have hqs2 := hsz j (by omega)
          rw [hr] at hstep ⊢
          obtain ⟨q2, hq2⟩ : ∃ q, ps[j]?.getD ByteArray.empty = q := ⟨_, rfl⟩
          rw [hq2] at hstep hqs2 hc2'
          clear hq2 hc2 hr hsz hA
          by_cases h3 : (q2.size : Int) < (q.size : Int)
          · rw [longStep_hit h3 h2] at hstep
            have HS := Lib.hid hstep
            have h4 : decide ((j : Int) < 0) = false := by simp
            clear hstep h2
            go_wp2
            go_quiet ((go_at_call 10; exact Calls.quiet_of_same (H1.out _)))
            go_wp2
            go_roundw
            case rel => exact ⟨k + 1, by omega, by go_num, by rw [HS.out], below_drewN hb _⟩
            case measure => simp [intOf]; omega
          · rw [longStep_short h3] at hstep
            have HS := Lib.hid hstep
            have h4 : decide ((j : Int) < 0) = false := by simp
            have h5 : decide ((q2.size : Int) < (q.size : Int)) = false := by simpa using h3
            clear hstep h2
            go_wp2
            go_quiet ((go_at_call 10; exact Calls.quiet_of_same (H1.out _)))
            go_wp2
            go_roundw
            case rel => exact ⟨k + 1, by omega, by go_num, by rw [HS.out], below_drewN hb _⟩
            case measure => simp [intOf]; omega
    · obtain rfl : k = n := by omega
      go_wp2
      go_ret
      exact ⟨rfl, hb⟩
end Go.Proofs.Ytieehofijndelaa
