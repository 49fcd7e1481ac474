/- Walks: a price times begun blocks. -/
import Derived.Test.YtcjceecdcjjnfaaAmtMag
import Derived.Test.YtcjceecdcjjnfaaAmtAdd
import Derived.Test.YtcjceecdcjjnfaaShelf
import Derived.Deep.QuietTactic
import Derived.BigQuiet
import Derived.WalkSmall
import Derived.Lib.Mul64
namespace Go.Proofs.Ytcjceecdcjjnfaa
open Go.RowKit

set_option maxHeartbeats 1000000 in
theorem divOne (lo : Int) (h0 : 0 ≤ lo) (h1 : lo ≤ 18446744073709551615) (w : World) :
    Calls Try.prog 35 #[.int .u64 0, .int .u64 lo, .int .u64 1] w fun e w' => e = .returned (.tuple #[.int .u64 lo, .int .u64 0]) ∧ ∃ n, w' = w.drewN n := by
  have hb2 : ¬ (1 : Int) ≤ 0 := by omega
  have e1 : lo / 1 = lo := Int.ediv_one lo
  have e2 : lo % 1 = 0 := Int.emod_one lo
  have e3 : lo.tdiv 1 = lo := Int.tdiv_one lo
  have e4 : lo.tmod 1 = 0 := Int.tmod_one lo
  go_enter Try.func35, Try.ntmps35
  go_wp2
  go_quiet (fail)
  go_wp2
  go_ret2
  exact ⟨by first | rfl | simp only [e1, e2, e3, e4], _, rfl⟩

/-- What begun blocks cost. -/
def blkV (p b : Nat) : Int := if p * b ≤ 1125899906842624 then ((p * b : Nat) : Int) else 0
def blkE (p b : Nat) : Int := if p * b ≤ 1125899906842624 then 0 else 6
theorem blk_ok {p b m : Nat} (h : p * b = m) (h2 : m ≤ 1125899906842624) : blkV p b = (m : Int) ∧ blkE p b = 0 := by
  unfold blkV blkE; rw [h, if_pos h2, if_pos h2]; exact ⟨rfl, rfl⟩
theorem blk_no {p b : Nat} (h2 : ¬ p * b ≤ 1125899906842624) : blkV p b = 0 ∧ blkE p b = 6 := by
  unfold blkV blkE; rw [if_neg h2, if_neg h2]; exact ⟨rfl, rfl⟩
theorem retTwo {a b c d : Int} (h : a = b) (h2 : c = d) : Ending.returned (.tuple #[.int .i64 a, .int .i64 c]) = .returned (.tuple #[.int .i64 b, .int .i64 d]) := by rw [h, h2]

set_option maxHeartbeats 4000000 in
set_option maxRecDepth 100000 in
theorem blocks_any (p b : Nat) (hp : p ≤ 1125899906842624) (hb : b ≤ 1099511627776) (w : World) :
    Calls Try.prog 29 #[.int .i64 (p : Int), .int .i64 (b : Int), .int .i64 1] w fun e w' => e = .returned (.tuple #[.int .i64 (blkV p b), .int .i64 (blkE p b)]) ∧ ∃ k, w' = w.drewN k := by
  have ha : okA (p : Int) = true := okA_iff.2 ⟨by omega, by omega⟩
  have h1 : okU (b : Int) = true := okU_iff.2 ⟨by omega, by omega⟩
  have h2 : okU 1 = true := rfl
  have hm : mag (p : Int) = (p : Int) := mag_pos (by omega)
  have hM := fun wx => (Try.bits_Mul64 p b (by omega) (by omega) wx)
  have hlo : p * b % 18446744073709551616 < 18446744073709551616 := Nat.mod_lt _ (by decide)
  have hp3 := Nat.div_add_mod' (p * b) 18446744073709551616
  obtain ⟨hi, hhi⟩ : ∃ hi, p * b / 18446744073709551616 = hi := ⟨_, rfl⟩
  obtain ⟨lo, hloe⟩ : ∃ lo, p * b % 18446744073709551616 = lo := ⟨_, rfl⟩
  rw [hhi, hloe] at hp3
  rw [hloe] at hlo
  have HM : Hid (∀ wx, Calls Try.prog 33 #[.int .u64 (p : Int), .int .u64 (b : Int)] wx fun e w' => e = .returned (.tuple #[.int .u64 (hi : Int), .int .u64 (lo : Int)]) ∧ wx = w') :=
    Lib.hid fun wx => (hM wx).mono fun e w' ⟨he, hw⟩ => ⟨by rw [he, hhi, hloe], hw.symm⟩
  clear hM hhi hloe
  have hpn : (0 : Int) ≤ (p : Int) := by omega
  have hpn2 : ¬ (p : Int) < 0 := by omega
  by_cases hc : 1 ≤ hi
  · have hc1 : (1 : Int) ≤ (hi : Int) := by omega
    have HF := Lib.hid (blk_no (p := p) (b := b) (by rw [← hp3]; omega))
    clear hp3
    go_enter Try.func29, Try.ntmps29
    go_wp2_with (first
      | (go_at_call 31; refine (valid_any _ _).mono ?_; rintro e w1 ⟨rfl, rfl⟩)
      | (go_at_call 32; refine (validUnits_any _ _).mono ?_; rintro e w1 ⟨rfl, rfl⟩)
      | (go_at_call 34; refine (magnitude_any _ _ (by omega) (by omega)).mono ?_; rintro e w1 ⟨rfl, rfl⟩; rw [hm])
      | (go_at_call 33; refine (HM.out _).mono ?_; rintro e w1 ⟨rfl, rfl⟩))
    go_ret2
    exact ⟨retTwo HF.out.1.symm HF.out.2.symm, 0, rfl⟩
  · obtain rfl : hi = 0 := by omega
    have hc1 : ¬ (1 : Int) ≤ ((0 : Nat) : Int) := by omega
    have HD := Lib.hid (fun wx => divOne (lo : Int) (by omega) (by omega) wx)
    have hpl : p * b = lo := by omega
    by_cases h50 : lo ≤ 1125899906842624
    · have h50' : ¬ (1125899906842624 : Int) < (lo : Int) := by omega
      have HF := Lib.hid (blk_ok hpl h50)
      clear hp3 hpl h50
      go_enter Try.func29, Try.ntmps29
      go_wp2_with (first
        | (go_at_call 31; refine (valid_any _ _).mono ?_; rintro e w1 ⟨rfl, rfl⟩)
        | (go_at_call 32; refine (validUnits_any _ _).mono ?_; rintro e w1 ⟨rfl, rfl⟩)
        | (go_at_call 34; refine (magnitude_any _ _ (by omega) (by omega)).mono ?_; rintro e w1 ⟨rfl, rfl⟩; rw [hm])
        | (go_at_call 33; refine (HM.out _).mono ?_; rintro e w1 ⟨rfl, rfl⟩)
        | (go_at_call 35; refine (HD.out _).mono ?_; rintro e w1 ⟨rfl, k, rfl⟩))
      go_ret2
      exact ⟨retTwo HF.out.1.symm HF.out.2.symm, k, rfl⟩
    · have h50' : (1125899906842624 : Int) < (lo : Int) := by omega
      have HF := Lib.hid (blk_no (p := p) (b := b) (by omega))
      clear hp3 hpl h50
      go_enter Try.func29, Try.ntmps29
      go_wp2_with (first
        | (go_at_call 31; refine (valid_any _ _).mono ?_; rintro e w1 ⟨rfl, rfl⟩)
        | (go_at_call 32; refine (validUnits_any _ _).mono ?_; rintro e w1 ⟨rfl, rfl⟩)
        | (go_at_call 34; refine (magnitude_any _ _ (by omega) (by omega)).mono ?_; rintro e w1 ⟨rfl, rfl⟩; rw [hm])
        | (go_at_call 33; refine (HM.out _).mono ?_; rintro e w1 ⟨rfl, rfl⟩)
        | (go_at_call 35; refine (HD.out _).mono ?_; rintro e w1 ⟨rfl, k, rfl⟩))
      go_ret2
      exact ⟨retTwo HF.out.1.symm HF.out.2.symm, k, rfl⟩
end Go.Proofs.Ytcjceecdcjjnfaa
