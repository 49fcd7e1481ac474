/- Walk: Keyword. -/
import Derived.Test.YtkdimbpmgngajaaDoorLxB
namespace Go.Proofs.YtkdimbpmgngajaaDoor.Lx
open Go Go.Lib Go.RowKit Go.Proofs.YtkdimbpmgngajaaDoor
def kws : List Wd := [[116, 97, 114, 105, 102, 102], [102, 114, 111, 109], [115, 112, 108, 105, 116], [122, 111, 110, 101], [98, 97, 110, 100], [111, 116, 104, 101, 114, 119, 105, 115, 101], [114, 97, 116, 101], [116, 111], [97, 110, 121], [105, 110], [115, 101, 116, 117, 112], [117, 112, 116, 111], [112, 101, 114], [97, 116], [100, 105, 115, 99, 111, 117, 110, 116], [112, 111, 105, 110, 116, 115], [119, 104, 101, 110], [97, 110, 100], [111, 114], [110, 111, 116], [109, 111, 110], [116, 117, 101], [119, 101, 100], [116, 104, 117], [102, 114, 105], [115, 97, 116], [115, 117, 110], [104, 111, 108, 105, 100, 97, 121], [118, 111, 105, 99, 101], [116, 101, 120, 116], [100, 97, 116, 97], [99, 111, 110, 116, 101, 110, 116], [107, 105, 110, 100], [117, 110, 105, 116, 115], [119, 101, 101, 107, 100, 97, 121], [109, 105, 110, 117, 116, 101], [116, 111, 116, 97, 108], [115, 112, 101, 110, 116], [102, 97, 109, 105, 108, 121]]
/-- Is a text a keyword? -/
def kwB (s : ByteArray) : Bool := (s.toList == [116, 97, 114, 105, 102, 102]) || (s.toList == [102, 114, 111, 109]) || (s.toList == [115, 112, 108, 105, 116]) || (s.toList == [122, 111, 110, 101]) || (s.toList == [98, 97, 110, 100]) || (s.toList == [111, 116, 104, 101, 114, 119, 105, 115, 101]) || (s.toList == [114, 97, 116, 101]) || (s.toList == [116, 111]) || (s.toList == [97, 110, 121]) || (s.toList == [105, 110]) || (s.toList == [115, 101, 116, 117, 112]) || (s.toList == [117, 112, 116, 111]) || (s.toList == [112, 101, 114]) || (s.toList == [97, 116]) || (s.toList == [100, 105, 115, 99, 111, 117, 110, 116]) || (s.toList == [112, 111, 105, 110, 116, 115]) || (s.toList == [119, 104, 101, 110]) || (s.toList == [97, 110, 100]) || (s.toList == [111, 114]) || (s.toList == [110, 111, 116]) || (s.toList == [109, 111, 110]) || (s.toList == [116, 117, 101]) || (s.toList == [119, 101, 100]) || (s.toList == [116, 104, 117]) || (s.toList == [102, 114, 105]) || (s.toList == [115, 97, 116]) || (s.toList == [115, 117, 110]) || (s.toList == [104, 111, 108, 105, 100, 97, 121]) || (s.toList == [118, 111, 105, 99, 101]) || (s.toList == [116, 101, 120, 116]) || (s.toList == [100, 97, 116, 97]) || (s.toList == [99, 111, 110, 116, 101, 110, 116]) || (s.toList == [107, 105, 110, 100]) || (s.toList == [117, 110, 105, 116, 115]) || (s.toList == [119, 101, 101, 107, 100, 97, 121]) || (s.toList == [109, 105, 110, 117, 116, 101]) || (s.toList == [116, 111, 116, 97, 108]) || (s.toList == [115, 112, 101, 110, 116]) || (s.toList == [102, 97, 109, 105, 108, 121])
theorem kwB_iff (s : ByteArray) : kwB s = true ↔ s.toList ∈ kws := by
  unfold kwB kws
  simp only [Bool.or_eq_true, beq_iff_eq, List.mem_cons, List.not_mem_nil, or_false, or_assoc]
set_option maxRecDepth 100000 in
set_option maxHeartbeats 16000000 in
theorem keyword_any (s : ByteArray) (w : World) : Calls Tryd.prog 18 #[.string s] w fun e w' => e = .returned (.bool (kwB s)) ∧ w' = w := by
  obtain ⟨v, hv⟩ : ∃ v, kwB s = v := ⟨_, rfl⟩
  have HV := Lib.hid hv
  rw [hv]
  clear hv
  go_enter Tryd.func18, Tryd.ntmps18
  go_wp2_with fail
  all_goals first
    | (exfalso; clear HV; simp_all; done)
    | (go_ret; exact ⟨ret_bool (by rw [← HV.out]; unfold kwB; simp only [*, Bool.or_true, Bool.true_or, Bool.or_false, Bool.false_or]), rfl⟩)
end Go.Proofs.YtkdimbpmgngajaaDoor.Lx
