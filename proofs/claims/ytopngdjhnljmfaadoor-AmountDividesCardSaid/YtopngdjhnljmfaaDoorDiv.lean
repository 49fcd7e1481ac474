/- Walk: bits.Div64 for an upper word that is not 0. -/
import Derived.Test.YtopngdjhnljmfaaDoorDivM
import Derived.Test.YtopngdjhnljmfaaDoorAmtAwk1
import Derived.Lib.Mul64
import Derived.Shelf.Bits.Mul64
import Derived.Deep.LoopGhost
import Derived.Deep.CutBlock
import Derived.Deep.DeepCutAuto
namespace Go.Proofs.YtopngdjhnljmfaaDoor
open Go.RowKit

theorem wrap_shl {a s v : Nat} (hv : a * 2 ^ s = v) (h : v < 18446744073709551616) : IntKind.u64.wrap ((a : Int) * 2 ^ s) = (v : Int) := by
  have : (a : Int) * 2 ^ s = ((v : Nat) : Int) := by rw [← hv]; simp
  rw [this]; exact Mul64.wrapN v h

theorem wrap_shl_mod {a s v : Nat} (hv : a * 2 ^ s % 18446744073709551616 = v) : IntKind.u64.wrap ((a : Int) * 2 ^ s) = (v : Int) := by
  have : (a : Int) * 2 ^ s = ((a * 2 ^ s : Nat) : Int) := by simp
  rw [this, Mul64.wrapM, hv]

theorem shr_nat (a s : Nat) : (a : Int) / 2 ^ s = ((a / 2 ^ s : Nat) : Int) := by simp
theorem div_nat (a b : Nat) : (a : Int) / (b : Int) = ((a / b : Nat) : Int) := by simp

theorem tdiv_nat (a b : Nat) (h : a < 18446744073709551616) : IntKind.u64.wrap ((a : Int).tdiv (b : Int)) = ((a / b : Nat) : Int) := by
  have : a / b ≤ a := Nat.div_le_self a b
  rw [← Int.ofNat_tdiv]; exact Mul64.wrapN _ (by omega)

theorem ediv_nat (a b : Nat) (h : a < 18446744073709551616) : IntKind.u64.wrap ((a : Int) / (b : Int)) = ((a / b : Nat) : Int) := by
  have : a / b ≤ a := Nat.div_le_self a b
  rw [div_nat]; exact Mul64.wrapN _ (by omega)

theorem or_nat {a s b : Nat} (hb : b < 2 ^ s) (h : a * 2 ^ s + b < 18446744073709551616) : bits .or .u64 ((a * 2 ^ s : Nat) : Int) (b : Int) = ((a * 2 ^ s + b : Nat) : Int) := by
  have h2 := bits_or_u64_nat (a * 2 ^ s) b (by omega) (by omega)
  rw [or_add hb] at h2
  exact h2

theorem rest_nat (U v1 : Nat) (hU : U < 18446744073709551616) : IntKind.u64.wrap ((U : Int) - IntKind.u64.wrap ((U / v1 : Nat) * (v1 : Int))) = ((U % v1 : Nat) : Int) := by
  have h1 := Nat.div_add_mod U v1
  have h2 : v1 * (U / v1) = U / v1 * v1 := Nat.mul_comm _ _
  rw [Mul64.mulN, Mul64.wrapN _ (by omega)]
  rw [show (U : Int) - ((U / v1 * v1 : Nat) : Int) = ((U % v1 : Nat) : Int) by omega]
  exact Mul64.wrapN _ (by omega)

theorem sub_one (q : Nat) (h1 : 1 ≤ q) (h2 : q ≤ 4294967297) : IntKind.u64.wrap ((q : Int) - 1) = ((q - 1 : Nat) : Int) := by
  rw [show (q : Int) - 1 = ((q - 1 : Nat) : Int) by omega]; exact Mul64.wrapN _ (by omega)
theorem add_nat (a b : Nat) (h : a + b < 18446744073709551616) : IntKind.u64.wrap ((a : Int) + (b : Int)) = ((a + b : Nat) : Int) := by
  rw [Mul64.addN]; exact Mul64.wrapN _ h
theorem mul_nat (a b : Nat) (ha : a < 4294967296) (hb : b < 4294967296) : IntKind.u64.wrap ((a : Int) * (b : Int)) = ((a * b : Nat) : Int) := by
  rw [Mul64.mulN]; exact Mul64.wrapN _ (digit_mul ha hb)
theorem hold_nat (r d : Nat) (hr : r < 4294967296) (hd : d < 4294967296) : IntKind.u64.wrap (IntKind.u64.wrap (4294967296 * (r : Int)) + (d : Int)) = ((4294967296 * r + d : Nat) : Int) := by
  simp only [IntKind.wrap_u64]; omega
theorem q_eq {a b : Nat} (h : a = b) : Value.int .u64 (a : Int) = Value.int .u64 (b : Int) := by rw [h]

/-- What is left after a digit: the words wrap, and what comes out does not. -/
theorem left_nat (U d v : Nat) (hd : d < 4294967296) (hU : U < v) (hv : v < 18446744073709551616) :
    IntKind.u64.wrap (IntKind.u64.wrap (IntKind.u64.wrap ((U : Int) * 4294967296) + (d : Int)) - IntKind.u64.wrap ((((U * 4294967296 + d) / v : Nat) : Int) * (v : Int))) = (((U * 4294967296 + d) % v : Nat) : Int) := by
  have h1 := Nat.div_add_mod (U * 4294967296 + d) v
  have h2 := Nat.mod_lt (U * 4294967296 + d) (show 0 < v by omega)
  rw [Nat.mul_comm] at h1
  rw [Mul64.mulN]
  generalize (U * 4294967296 + d) / v * v = m at *
  generalize (U * 4294967296 + d) % v = r at *
  simp only [IntKind.wrap_u64]
  omega

set_option maxHeartbeats 4000000 in
set_option maxRecDepth 100000 in
theorem div_any (hi lo y s : Nat) (h0 : 0 < hi) (hh : hi < y) (hl : lo < 18446744073709551616) (hy : y < 18446744073709551616) (hs : Lib.bitLen y = 64 - s) (hs6 : s ≤ 63)
    (hn1 : 9223372036854775808 ≤ y * 2 ^ s) (hn2 : y * 2 ^ s < 18446744073709551616) (w : World) :
    Calls Tryd.prog 18 #[.int .u64 (hi : Int), .int .u64 (lo : Int), .int .u64 (y : Int)] w fun e w' => e = .returned (.tuple #[.int .u64 ((hi * 18446744073709551616 + lo) / y : Nat), .int .u64 ((hi * 18446744073709551616 + lo) % y : Nat)]) ∧ w = w' := by
  have hb1 : ((y : Int) == 0) = false := by simp; omega
  have hb2 : ¬ (y : Int) ≤ hi := by omega
  have hb3 : ((hi : Int) == 0) = false := by simp; omega
  have hLZ : ∀ wx, Calls Tryd.prog 30 #[.int .u64 (y : Int)] wx fun e w' => e = .returned (.int .i64 (s : Int)) ∧ wx = w' := fun wx => (Tryd.bits_LeadingZeros64 y wx (by omega) (by omega)).mono fun e w' ⟨he, hw⟩ => ⟨by rw [he]; simp only [Int.toNat_natCast]; rw [hs]; congr 2; omega, hw.symm⟩
  obtain ⟨hm1, hm2, hm3, hm4⟩ := moved hs6 hl hh hn2
  obtain ⟨v, hv⟩ : ∃ v, y * 2 ^ s = v := ⟨_, rfl⟩
  obtain ⟨N, hN⟩ : ∃ N, lo * 2 ^ s % 18446744073709551616 = N := ⟨_, rfl⟩
  obtain ⟨U, hU⟩ : ∃ U, hi * 2 ^ s + lo / 2 ^ (64 - s) = U := ⟨_, rfl⟩
  have EV := wrap_shl hv (by omega)
  have EN := wrap_shl_mod hN
  have EH := wrap_shl (a := hi) (s := s) rfl hm4
  have EO := or_nat (a := hi) hm3 (by omega)
  have hN64 : N < 18446744073709551616 := by rw [← hN]; exact Nat.mod_lt _ (by decide)
  rw [hU] at EO hm1 hm2
  rw [hv] at hm2 hn1 hn2
  rw [hN] at hm1
  have hdig := two_digits (N := hi * 18446744073709551616 + lo) (y := y) (s := s) (U := U) (un1 := N / 4294967296) (un0 := N % 4294967296) (by omega) (by omega) (by omega)
  rw [hv] at hdig
  have hback : (hi * 18446744073709551616 + lo) % y * 2 ^ s / 2 ^ s = (hi * 18446744073709551616 + lo) % y := Nat.mul_div_cancel _ (Nat.pow_pos (by decide))
  have hnz : ¬ IntKind.u64.wrap ((y : Int) * 2 ^ s) / 4294967296 = 0 := by rw [EV]; omega
  have HDIG := Lib.hid hdig; clear hdig
  have HBACK := Lib.hid hback; clear hback
  have HM1 := Lib.hid hm1; clear hm1
  have HLZ := Lib.hid hLZ; clear hLZ
  have HH := Lib.hid (And.intro hn1 (And.intro hn2 (And.intro hm2 hN64))); clear hn1 hn2 hm2 hm3 hm4
  have HE := Lib.hid (And.intro EV (And.intro EN (And.intro EH EO))); clear EV EN EH EO
  have HV := Lib.hid (And.intro hv (And.intro hN hU)); clear hv hN hU
  go_enter Tryd.func18, Tryd.ntmps18
  go_upto_block 0 with (first
    | (go_at_call 30; refine (HLZ.out _).mono ?_; rintro e w1 ⟨rfl, rfl⟩))
  obtain ⟨hn1, hn2, hm2, hN64⟩ := HH.out
  obtain ⟨EV, EN, EH, EO⟩ := HE.out
  simp only [EV, EN, EH, shr_nat, EO, Mul64.maskN v hn2, Mul64.maskN N hN64, Mul64.divN, tdiv_nat U _ (show U < 18446744073709551616 by omega), rest_nat U _ (show U < 18446744073709551616 by omega)]
  clear EV EN EH EO
  have hvs := Nat.div_add_mod' v 4294967296
  have hv0 : v % 4294967296 < 4294967296 := by omega
  have hv1 : 2147483648 ≤ v / 4294967296 := by omega
  have hd1 : N / 4294967296 < 4294967296 := by omega
  have hd0 : N % 4294967296 < 4294967296 := by omega
  generalize v / 4294967296 = v1 at *
  generalize v % 4294967296 = v0 at *
  generalize N / 4294967296 = d1 at *
  generalize N % 4294967296 = d0 at *
  have hU64 : U < v1 * 4294967296 + v0 := by omega
  obtain ⟨hg0, hr0⟩ := guess_init hv1 hv0 hU64 hd1
  clear hn1 hnz
  go_cut [15, 16] from 67 to 85 (fun s15 s16 wx => w = wx ∧ ∃ q r : Nat, s15 = .int .u64 (q : Int) ∧ s16 = .int .u64 (r : Int) ∧ q = (U * 4294967296 + d1) / v)
  case first =>
    go_wp2_with fail
    go_loopg [15, 16] 2 (fun g s15 s16 wx => w = wx ∧ ∃ q r : Nat, s15 = .int .u64 (q : Int) ∧ s16 = .int .u64 (r : Int) ∧ g ≤ 2 ∧ 2147483648 * (2 - g) ≤ r ∧ r < 4294967296 ∧ Guess U d1 v1 v0 q r)
    case atStart => exact ⟨rfl, _, _, rfl, rfl, by omega, by omega, by omega, hg0⟩
    case round =>
      obtain ⟨rfl, q, r, rfl, rfl, hg, hb, hr, hG⟩ := hrel
      have HG := Lib.hid hG
      by_cases hA : 4294967296 ≤ q
      · have hA1 : (4294967296 : Int) ≤ q := by omega
        obtain ⟨h1q, hG2, hq2⟩ := guess_more hv1 hU64 hd1 hG (Or.inl hA)
        have eq1 := sub_one q h1q hG.2.2
        have er1 : (r : Int) + (v1 : Int) = ((r + v1 : Nat) : Int) := by omega
        obtain ⟨q', hq'⟩ : ∃ q', q - 1 = q' := ⟨_, rfl⟩
        obtain ⟨r', hr'⟩ : ∃ r', r + v1 = r' := ⟨_, rfl⟩
        rw [hq'] at eq1 hG2 hq2
        rw [hr'] at er1 hG2
        have HG2 := Lib.hid (And.intro hG2 (And.intro hq2 hr')); have EQ := Lib.hid eq1; have ER := Lib.hid er1
        clear hG hG2 hg0 hq' hq2 h1q hr' eq1 er1
        go_upto_region 20 with fail
        simp only [EQ.out, ER.out]
        clear EQ ER
        by_cases hR : 4294967296 ≤ r'
        · have hR1 : (4294967296 : Int) ≤ r' := by omega
          have HR := Lib.hid hR; clear hR
          go_wp2
          go_meet
          exact ⟨rfl, q', r', rfl, rfl, by rw [← hvs]; exact guess_break hv1 hv0 HG2.out.1 HR.out HG2.out.2.1⟩
        · have hR1 : ¬ (4294967296 : Int) ≤ r' := by omega
          have HR := Lib.hid hR; clear hR
          go_wp2
          go_roundg (gk - 1)
          case measure => have := HG2.out.2.2; omega
          case rel => have := HG2.out.2.2; exact ⟨rfl, q', r', rfl, rfl, by omega, by omega, Nat.lt_of_not_le HR.out, HG2.out.1⟩
      · have hA1 : ¬ (4294967296 : Int) ≤ q := by omega
        have em := mul_nat q v0 (by omega) hv0
        have eh := hold_nat r d1 hr hd1
        by_cases hC : 4294967296 * r + d1 < q * v0
        · have hC1 : IntKind.u64.wrap (IntKind.u64.wrap (4294967296 * (r : Int)) + (d1 : Int)) < IntKind.u64.wrap ((q : Int) * (v0 : Int)) := by rw [em, eh]; omega
          have hC2 : 4294967296 * (r : Int) + (d1 : Int) < IntKind.u64.wrap ((q : Int) * (v0 : Int)) := by rw [em]; omega
          have hC3 : IntKind.u64.wrap (4294967296 * (r : Int) + (d1 : Int)) < IntKind.u64.wrap ((q : Int) * (v0 : Int)) := by rw [em, IntKind.wrap_u64]; omega
          clear em eh
          obtain ⟨h1q, hG2, hq2⟩ := guess_more hv1 hU64 hd1 hG (Or.inr hC)
          have eq1 := sub_one q h1q hG.2.2
          have er1 : (r : Int) + (v1 : Int) = ((r + v1 : Nat) : Int) := by omega
          obtain ⟨q', hq'⟩ : ∃ q', q - 1 = q' := ⟨_, rfl⟩
          obtain ⟨r', hr'⟩ : ∃ r', r + v1 = r' := ⟨_, rfl⟩
          rw [hq'] at eq1 hG2 hq2
          rw [hr'] at er1 hG2
          have HG2 := Lib.hid (And.intro hG2 (And.intro hq2 hr')); have EQ := Lib.hid eq1; have ER := Lib.hid er1
          clear hG hG2 hg0 hq' hq2 h1q hr' eq1 er1
          go_upto_region 20 with fail
          simp only [EQ.out, ER.out]
          clear EQ ER
          by_cases hR : 4294967296 ≤ r'
          · have hR1 : (4294967296 : Int) ≤ r' := by omega
            have HR := Lib.hid hR; clear hR
            go_wp2
            go_meet
            exact ⟨rfl, q', r', rfl, rfl, by rw [← hvs]; exact guess_break hv1 hv0 HG2.out.1 HR.out HG2.out.2.1⟩
          · have hR1 : ¬ (4294967296 : Int) ≤ r' := by omega
            have HR := Lib.hid hR; clear hR
            go_wp2
            go_roundg (gk - 1)
            case measure => have := HG2.out.2.2; omega
            case rel => have := HG2.out.2.2; exact ⟨rfl, q', r', rfl, rfl, by omega, by omega, Nat.lt_of_not_le HR.out, HG2.out.1⟩
        · have hC1 : ¬ IntKind.u64.wrap (IntKind.u64.wrap (4294967296 * (r : Int)) + (d1 : Int)) < IntKind.u64.wrap ((q : Int) * (v0 : Int)) := by rw [em, eh]; omega
          clear hG hg0 em eh
          go_wp2
          go_meet
          exact ⟨rfl, q, r, rfl, rfl, by rw [← hvs]; exact guess_stop hv1 HG.out (by omega)⟩
  case rest =>
    obtain ⟨rfl, q, r, rfl, rfl, hq⟩ := hcut
    have HQ := Lib.hid hq; clear hq
    have eL := left_nat U d1 v hd1 hm2 hn2
    rw [← HQ.out] at eL
    have EL := Lib.hid eL; clear eL
    go_upto_region 22 with fail
    simp only [EL.out]
    have hV : (U * 4294967296 + d1) % v < v := Nat.mod_lt _ (by omega)
    have HD := HDIG.out
    clear EL HDIG hg0 hr0
    obtain ⟨V, hVe⟩ : ∃ V, (U * 4294967296 + d1) % v = V := ⟨_, rfl⟩
    rw [hVe] at hV HD
    simp only [hVe]
    have HVE := Lib.hid hVe; clear hVe
    have HDIG := Lib.hid HD
    clear HD
    go_upto_block 2 with fail
    simp only [ediv_nat V _ (show V < 18446744073709551616 by omega), rest_nat V _ (show V < 18446744073709551616 by omega)]
    have hV64 : V < v1 * 4294967296 + v0 := by omega
    obtain ⟨hg0, hr0⟩ := guess_init hv1 hv0 hV64 hd0
    go_cut [16, 18] from 102 to 120 (fun s16 s18 wx => w = wx ∧ ∃ r2 q2 : Nat, s16 = .int .u64 (r2 : Int) ∧ s18 = .int .u64 (q2 : Int) ∧ q2 = (V * 4294967296 + d0) / v)
    case first =>
      go_wp2_with fail
      go_loopg [16, 18] 2 (fun g s16 s18 wx => w = wx ∧ ∃ r2 q2 : Nat, s16 = .int .u64 (r2 : Int) ∧ s18 = .int .u64 (q2 : Int) ∧ g ≤ 2 ∧ 2147483648 * (2 - g) ≤ r2 ∧ r2 < 4294967296 ∧ Guess V d0 v1 v0 q2 r2)
      case atStart => exact ⟨rfl, _, _, rfl, rfl, by omega, by omega, by omega, hg0⟩
      case round =>
        obtain ⟨rfl, r2, q2, rfl, rfl, hg, hb, hr, hG⟩ := hrel
        have HG := Lib.hid hG
        by_cases hA : 4294967296 ≤ q2
        · have hA1 : (4294967296 : Int) ≤ q2 := by omega
          obtain ⟨h1q, hG2, hq2⟩ := guess_more hv1 hV64 hd0 hG (Or.inl hA)
          have eq1 := sub_one q2 h1q hG.2.2
          have er1 : (r2 : Int) + (v1 : Int) = ((r2 + v1 : Nat) : Int) := by omega
          obtain ⟨q', hq'⟩ : ∃ q', q2 - 1 = q' := ⟨_, rfl⟩
          obtain ⟨r', hr'⟩ : ∃ r', r2 + v1 = r' := ⟨_, rfl⟩
          rw [hq'] at eq1 hG2 hq2
          rw [hr'] at er1 hG2
          have HG2 := Lib.hid (And.intro hG2 (And.intro hq2 hr')); have EQ := Lib.hid eq1; have ER := Lib.hid er1
          clear hG hG2 hg0 hq' hq2 h1q hr' eq1 er1
          go_upto_region 27 with fail
          simp only [EQ.out, ER.out]
          clear EQ ER
          by_cases hR : 4294967296 ≤ r'
          · have hR1 : (4294967296 : Int) ≤ r' := by omega
            have HR := Lib.hid hR; clear hR
            go_wp2
            go_meet
            exact ⟨rfl, r', q', rfl, rfl, by rw [← hvs]; exact guess_break hv1 hv0 HG2.out.1 HR.out HG2.out.2.1⟩
          · have hR1 : ¬ (4294967296 : Int) ≤ r' := by omega
            have HR := Lib.hid hR; clear hR
            go_wp2
            go_roundg (gk - 1)
            case measure => have := HG2.out.2.2; omega
            case rel => have := HG2.out.2.2; exact ⟨rfl, r', q', rfl, rfl, by omega, by omega, Nat.lt_of_not_le HR.out, HG2.out.1⟩
        · have hA1 : ¬ (4294967296 : Int) ≤ q2 := by omega
          have em := mul_nat q2 v0 (by omega) hv0
          have eh := hold_nat r2 d0 hr hd0
          by_cases hC : 4294967296 * r2 + d0 < q2 * v0
          · have hC1 : IntKind.u64.wrap (IntKind.u64.wrap (4294967296 * (r2 : Int)) + (d0 : Int)) < IntKind.u64.wrap ((q2 : Int) * (v0 : Int)) := by rw [em, eh]; omega
            have hC2 : 4294967296 * (r2 : Int) + (d0 : Int) < IntKind.u64.wrap ((q2 : Int) * (v0 : Int)) := by rw [em]; omega
            have hC3 : IntKind.u64.wrap (4294967296 * (r2 : Int) + (d0 : Int)) < IntKind.u64.wrap ((q2 : Int) * (v0 : Int)) := by rw [em, IntKind.wrap_u64]; omega
            clear em eh
            obtain ⟨h1q, hG2, hq2⟩ := guess_more hv1 hV64 hd0 hG (Or.inr hC)
            have eq1 := sub_one q2 h1q hG.2.2
            have er1 : (r2 : Int) + (v1 : Int) = ((r2 + v1 : Nat) : Int) := by omega
            obtain ⟨q', hq'⟩ : ∃ q', q2 - 1 = q' := ⟨_, rfl⟩
            obtain ⟨r', hr'⟩ : ∃ r', r2 + v1 = r' := ⟨_, rfl⟩
            rw [hq'] at eq1 hG2 hq2
            rw [hr'] at er1 hG2
            have HG2 := Lib.hid (And.intro hG2 (And.intro hq2 hr')); have EQ := Lib.hid eq1; have ER := Lib.hid er1
            clear hG hG2 hg0 hq' hq2 h1q hr' eq1 er1
            go_upto_region 27 with fail
            simp only [EQ.out, ER.out]
            clear EQ ER
            by_cases hR : 4294967296 ≤ r'
            · have hR1 : (4294967296 : Int) ≤ r' := by omega
              have HR := Lib.hid hR; clear hR
              go_wp2
              go_meet
              exact ⟨rfl, r', q', rfl, rfl, by rw [← hvs]; exact guess_break hv1 hv0 HG2.out.1 HR.out HG2.out.2.1⟩
            · have hR1 : ¬ (4294967296 : Int) ≤ r' := by omega
              have HR := Lib.hid hR; clear hR
              go_wp2
              go_roundg (gk - 1)
              case measure => have := HG2.out.2.2; omega
              case rel => have := HG2.out.2.2; exact ⟨rfl, r', q', rfl, rfl, by omega, by omega, Nat.lt_of_not_le HR.out, HG2.out.1⟩
          · have hC1 : ¬ IntKind.u64.wrap (IntKind.u64.wrap (4294967296 * (r2 : Int)) + (d0 : Int)) < IntKind.u64.wrap ((q2 : Int) * (v0 : Int)) := by rw [em, eh]; omega
            clear hG hg0 em eh
            go_wp2
            go_meet
            exact ⟨rfl, r2, q2, rfl, rfl, by rw [← hvs]; exact guess_stop hv1 HG.out (by omega)⟩
    case rest =>
      obtain ⟨rfl, r2, q2, rfl, rfl, hq⟩ := hcut
      have HQ2 := Lib.hid hq; clear hq
      have eL := left_nat V d0 v hd0 hV hn2
      rw [← HQ2.out] at eL
      have EL := Lib.hid eL; clear eL
      go_wp2
      obtain ⟨t1, t2⟩ := HDIG.out
      have hB := HBACK.out
      rw [← HQ.out, ← HQ2.out] at t1
      have ht : (hi * 18446744073709551616 + lo) / y < 18446744073709551616 := by
        rw [Nat.div_lt_iff_lt_mul (by omega)]; omega
      have eQ : IntKind.u64.wrap (IntKind.u64.wrap ((q : Int) * 4294967296) + (q2 : Int)) = (((hi * 18446744073709551616 + lo) / y : Nat) : Int) := by
        rw [← t1] at ht ⊢
        simp only [IntKind.wrap_u64]; omega
      simp only [eQ, EL.out, t2, shr_nat, hB]
      go_ret2
      exact ⟨rfl, rfl⟩

/-- bits.Div64: the quotient and the remainder of two words by one that is greater than the upper. -/
theorem div64 (hi lo y : Nat) (hh : hi < y) (hl : lo < 18446744073709551616) (hy : y < 18446744073709551616) (w : World) :
    Calls Tryd.prog 18 #[.int .u64 (hi : Int), .int .u64 (lo : Int), .int .u64 (y : Int)] w fun e w' => e = .returned (.tuple #[.int .u64 ((hi * 18446744073709551616 + lo) / y : Nat), .int .u64 ((hi * 18446744073709551616 + lo) % y : Nat)]) ∧ ∃ n, w' = w.drewN n := by
  rcases Nat.eq_zero_or_pos hi with rfl | h0
  · refine (div_zero lo y (by omega) (by omega) (by omega) (by omega) w).mono fun e w' ⟨he, hw⟩ => ⟨?_, hw⟩
    rw [he]; simp
  · obtain ⟨s, hs, hs6, hn1, hn2⟩ := len_bounds y (by omega) hy
    exact (div_any hi lo y s h0 hh hl hy hs hs6 hn1 hn2 w).mono fun e w' ⟨he, hw⟩ => ⟨he, 0, by rw [← hw]; rfl⟩
end Go.Proofs.YtopngdjhnljmfaaDoor
