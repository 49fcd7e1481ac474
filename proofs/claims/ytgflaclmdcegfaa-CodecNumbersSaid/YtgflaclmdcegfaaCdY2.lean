/- Walk: a text is appended, in the reference. -/
import Derived.Test.YtgflaclmdcegfaaRows
import Derived.Test.YtgflaclmdcegfaaCdY
namespace Go.Proofs.Ytgflaclmdcegfaa
open Go.RowKit
set_option maxHeartbeats 1000000 in
theorem refPutTxt_any {A : Option Addr} {n c : Nat} {l : List Int} {w : World} (s : ByteArray) (hs : s.size ≤ 90000000) (hA : Byt w A n c l) (hn : n ≤ 90000000) :
    Calls Try.prog 21 #[.slice A n c, .string s] w (Gives w w.heap.size (l ++ txtE s)) := by
  have h10 := numE_len (z := s.size) (by omega) (by omega)
  have HB := Lib.hid (refPutNum_any (s.size : Int) hA (by omega) (by omega))
  have hlen := hA.len
  have HN := Lib.hid hn; have HS := Lib.hid hs
  clear hA hn hs
  go_enter Try.func21, Try.ntmps21
  go_wp2_with (first
    | (go_at_call 11; refine HB.out.mono ?_; rintro e w1 ⟨v1, rfl, ho1, hb1⟩; obtain ⟨A1, m1, c1, rfl, hm1, hB1⟩ := ho1.bytm; obtain ⟨cc, wc, hcv, hbc, hBc⟩ := conv_str w1 s (by have := HS.out; omega); have HJ := Lib.hid (join_any (hB1.below hbc) hBc (by have := HN.out; have := HS.out; have := hm1.out; rw [List.length_append] at this; omega)); have HC := Lib.hid hbc; clear ho1 hB1 hbc hBc)
    | (go_at_call 29; refine HJ.out.mono ?_; rintro e w2 ⟨v2, rfl, ho2, hb2⟩))
  go_ret
  have hb3 := HC.out.mono hb1.size
  have hs3 := Nat.le_trans hb1.size hb3.size
  refine ⟨_, rfl, ?_, hb1.trans (hb3.trans (hb2.mono hs3))⟩
  rw [txtE, ← List.append_assoc]; exact ho2.mono hs3
end Go.Proofs.Ytgflaclmdcegfaa
