/- Walks: the checksum, in the program and in the reference. -/
import Derived.Test.YtobkafkknbdacaaDoorRows
import Derived.Test.YtobkafkknbdacaaDoorCdD
import Derived.Test.YtobkafkknbdacaaDoorFrM
namespace Go.Proofs.YtobkafkknbdacaaDoor
open Go.RowKit

set_option maxHeartbeats 1000000 in
theorem sum_any {A : Option Addr} {n c : Nat} {l : List Int} {w : World} (hA : Byt w A n c l) (hn : n ≤ 1000000000) :
    Calls Tryd.prog 28 #[.slice A n c] w fun e w' => e = .returned (.int .u32 (fnv l)) ∧ w = w' := by
  have hl := hA.len
  have hmi : (n : Int) ≤ 1000000000 := by omega
  have HA := Lib.hid hA; clear hA hn
  obtain ⟨fin, hfin⟩ : ∃ fin, fnv l = fin := ⟨_, rfl⟩
  rw [hfin]
  have HFIN := Lib.hid hfin; clear hfin
  go_enter Tryd.func28, Tryd.ntmps28
  go_wp2
  go_loopw [3, 8] (fun u i wr => ∃ (k s : Nat), i = .int .i64 (k : Int) ∧ u = .int .u32 (s : Int) ∧ k ≤ n ∧ Hid (s < 4294967296) ∧ Hid (fnvF s (l.drop k) = fin) ∧ wr = w) (fun _ i _ => n - (intOf i).toNat)
  case atStart => exact ⟨0, 2166136261, rfl, rfl, by omega, by show _ < _; decide, HFIN.out, rfl⟩
  case round =>
    obtain ⟨k, s, rfl, rfl, hk, hs, hd, rfl⟩ := hrel
    by_cases hlt : k < n
    · obtain ⟨b, off, x, rfl, hx, hcell, _⟩ := HA.out.at hlt
      have hr := HA.out.ran x (List.mem_of_getElem? hx)
      have hst := fstep_bits s x hs.out hr.1 hr.2
      have HLT := Lib.hid (fstep_lt s x)
      have hlt' : (k : Int) < (n : Int) := by omega
      obtain ⟨s', hs'⟩ : ∃ s', fstep s x = s' := ⟨_, rfl⟩
      rw [hs'] at hst HLT
      have HS := Lib.hid hs'; clear hs'
      go_wp2
      go_roundw
      case rel =>
        refine ⟨k + 1, s', by first | rfl | (simp; omega), rfl, by omega, HLT.out, ?_, by first | trivial | rfl⟩
        have := hd.out
        rw [drop_at hx, fnvF_cons, HS.out] at this
        exact this
      case measure => simp [intOf]; omega
    · obtain rfl : k = n := by omega
      have hfin : s = fin := by
        have := hd.out
        rw [List.drop_eq_nil_of_le (by omega)] at this
        exact this
      subst hfin
      go_wp2
      go_ret
      exact ⟨rfl, rfl⟩
end Go.Proofs.YtobkafkknbdacaaDoor
