/- Walk of the law on Expr. -/
import Derived.Test.YtolgfkkjbefecaaCkF
import Derived.Test.YtolgfkkjbefecaaCkN
namespace Go.Proofs.Ytolgfkkjbefecaa
open Go.RowKit Ck Go.Lib

namespace Ck
theorem small_is {op num : Int} {tx : ByteArray} {args : List Ex} {v : Bool} (h : sml (.mk op num tx args) = v) (A : Option Addr) (d n c : Nat) (w : World) (hA : XA w d A args) (hn : args.length = n) (hc : n ≤ c) (hm : c ≤ maxLen) (ht : tx.size ≤ maxLen) :
    Calls Try.prog 10 #[.agg #[.int .i64 op, .int .i64 num, .string tx, .slice A n c]] w fun e w' => e = .returned (.bool v) ∧ Below w.heap.size w w' := by
  subst h; exact small_any d op num tx args A n c w hA hn hc hm ht
theorem refExpr_is {op num : Int} {tx : ByteArray} {args : List Ex} {s v : Int} (h : sortX 16 (.mk op num tx args) = (s, v)) (A : Option Addr) (d n c : Nat) (w : World) (hA : XA w d A args) (hn : args.length = n) (hc : n ≤ c) (hm : c ≤ maxLen) (ht : tx.size ≤ maxLen) :
    Calls Try.prog 13 #[.agg #[.int .i64 op, .int .i64 num, .string tx, .slice A n c]] w fun e w' => e = .returned (.tuple #[.int .i64 s, .int .i64 v]) ∧ Below w.heap.size w w' := by
  have := refExpr_any op num tx args A d n c w hA hn hc hm ht
  unfold SoOut at this
  rw [h] at this
  exact this
end Ck
set_option maxRecDepth 100000 in
set_option maxHeartbeats 8000000 in
theorem walkCheckerExprs (op num : Int) (tx : ByteArray) (args : List Ex) (A : Option Addr) (d n c : Nat) (w : World) (hA : XA w d A args) (hn : args.length = n) (hc : n ≤ c) (hm : c ≤ maxLen) (ht : tx.size ≤ maxLen) :
    Calls Try.prog 3 #[.agg #[.int .i64 op, .int .i64 num, .string tx, .slice A n c]] w fun e w' => e = .returned (.bool true) ∧ Below w.heap.size w w' := by
  obtain ⟨W1, hW1⟩ : ∃ W, w.alloc (.cells #[.int .i64 op, .int .i64 num, .string tx, .slice A n c] 24) = W := ⟨_, rfl⟩
  obtain ⟨g, hg⟩ : ∃ g, w.heap.size = g := ⟨_, rfl⟩
  have hbk : Blk W1 g 24 #[.int .i64 op, .int .i64 num, .string tx, .slice A n c] := hW1 ▸ hg ▸ Blk.new w _ _
  have HB := Lib.hid (show Below w.heap.size w W1 from hW1 ▸ below_one w _)
  have HBK := Lib.hid hbk
  have HA1 := Lib.hid (hA.below HB.out)
  obtain ⟨v, hv⟩ : ∃ v, sml (.mk op num tx args) = v := ⟨_, rfl⟩
  obtain ⟨sv, hsv⟩ : ∃ x, sortX 16 (.mk op num tx args) = x := ⟨_, rfl⟩
  obtain ⟨s, er⟩ := sv
  have HSM := Lib.hid (fun (W : World) (h : XA W d A args) => small_is hv A d n c W h hn hc hm ht)
  have HE := Lib.hid (fun (W : World) (h : XA W d A args) => expr_is hsv A d n c W h hn hc hm ht)
  have HR := Lib.hid (fun (W : World) (h : XA W d A args) => refExpr_is hsv A d n c W h hn hc hm ht)
  obtain ⟨c0, c1, c2, c3⟩ := four hbk
  clear hA hn hbk hv hsv
  cases v
  · go_enter Try.func3, Try.ntmps3
    go_wp2_with (first
      | (go_at_call 10; (with_reducible refine (HSM.out _ HA1.out).mono ?_); rintro e w1 ⟨rfl, hb1⟩; have HB1 := Lib.hid hb1; clear hb1 c0 c1 c2 c3)
      | (go_at_call 11; (with_reducible refine (awake_any _).mono ?_); rintro e w3 ⟨rfl, hb3⟩; have HB3 := Lib.hid (HB1.out.trans (hb3.mono HB1.out.size)); clear hb3))
    go_ret
    exact ⟨rfl, HB.out.trans (HB3.out.mono HB.out.size)⟩
  · go_enter Try.func3, Try.ntmps3
    go_wp2_with (first
      | (go_at_call 10; (with_reducible refine (HSM.out _ HA1.out).mono ?_); rintro e w1 ⟨rfl, hb1⟩; have HB1 := Lib.hid hb1; clear hb1 c0 c1 c2 c3; obtain ⟨c0, c1, c2, c3⟩ := four (HBK.out.below HB1.out HBK.out.lt))
      | (go_at_call 12; (with_reducible refine (HE.out _ (HA1.out.below HB1.out)).mono ?_); rintro e w2 ⟨rfl, hb2⟩; have HB2 := Lib.hid (HB1.out.trans (hb2.mono HB1.out.size)); clear hb2 c0 c1 c2 c3; obtain ⟨c0, c1, c2, c3⟩ := four (HBK.out.below HB2.out HBK.out.lt))
      | (go_at_call 13; (with_reducible refine (HR.out _ (HA1.out.below HB2.out)).mono ?_); rintro e w3 ⟨rfl, hb3⟩; have HB3 := Lib.hid (HB2.out.trans (hb3.mono HB2.out.size)); clear hb3 c0 c1 c2 c3)
      | (go_at_call 11; (with_reducible refine (awake_any _).mono ?_); rintro e w4 ⟨rfl, hb4⟩; have HB4 := Lib.hid (HB3.out.trans (hb4.mono HB3.out.size)); clear hb4))
    go_ret
    exact ⟨rfl, HB.out.trans (HB4.out.mono HB.out.size)⟩
end Go.Proofs.Ytolgfkkjbefecaa
