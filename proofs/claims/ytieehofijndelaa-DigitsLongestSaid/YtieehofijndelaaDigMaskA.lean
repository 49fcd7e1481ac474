/- Walk: masking in the program. -/
import Derived.Test.YtieehofijndelaaDigMask
import Derived.IntWalk
namespace Go.Proofs.Ytieehofijndelaa
open Go.RowKit

theorem repeatX_any (c : Int) (w : World) (h0 : 0 ≤ c) (h1 : c ≤ 65536) :
    Calls Try.prog 23 #[.string ⟨#[120]⟩, .int .i64 c] w fun e w' => e = .returned (.string (S (List.replicate c.toNat 120))) ∧ Below w.heap.size w w' := by
  obtain ⟨n, rfl⟩ := Int.eq_ofNat_of_zero_le h0
  refine (Try.strings_Repeat ⟨#[120]⟩ n w (by omega) (by show 1 * n ≤ _; omega)).mono fun e w' ⟨he, hb⟩ => ⟨?_, hb⟩
  rw [he]
  exact ret_str (by show S (Lib.repeatL [120] n) = _; rw [repeat_x]; rfl)

set_option maxHeartbeats 1000000 in
theorem mask_any (s : ByteArray) (n : Int) (w : World) (hs : s.size ≤ 65536) :
    Calls Try.prog 18 #[.string s, .int .i64 n] w fun e w' => e = .returned (.string (S (maskL s.data.toList n.toNat))) ∧ Below w.heap.size w w' := by
  obtain ⟨m, hm⟩ : ∃ m : Nat, min (max n 0) (s.size : Int) = (m : Int) := ⟨(min (max n 0) (s.size : Int)).toNat, by omega⟩
  have hfin : S (maskL s.data.toList n.toNat) = s.extract 0 m ++ S (List.replicate (s.size - m) 120) := by
    rw [S_extract, S_append, List.drop_zero, Nat.sub_zero, maskL_min s.data.toList n.toNat m (by rw [len_data]; omega), len_data]
  have HF := Lib.hid hfin; clear hfin
  have hm1 : (m : Int) ≤ s.size := by omega
  have hadd : ∀ w : World, (Op.stringOp .add (s.extract 0 m) (S (List.replicate (s.size - m) 120))).run Try.prog w = .ok (.string (s.extract 0 m ++ S (List.replicate (s.size - m) 120))) w := fun w =>
    run_string_add_sum w _ _ (by rw [S_extract, S_size, S_size]; simp; omega)
  have hwr : IntKind.i64.wrap ((s.size : Int) - m) = (s.size : Int) - m := IntWalk.i64_in _ (by omega)
  go_enter Try.func18, Try.ntmps18
  go_wp2
  go_region_with (go_at_call 23; refine (repeatX_any _ _ (by omega) (by omega)).mono ?_; rintro e w1 ⟨rfl, hb⟩)
  all_goals
    go_wp2
    go_ret
    exact ⟨ret_str HF.out.symm, ((Below.refl _ _).drew).trans hb⟩
end Go.Proofs.Ytieehofijndelaa
