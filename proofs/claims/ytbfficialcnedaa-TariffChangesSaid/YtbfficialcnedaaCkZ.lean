/- Walks: the reference's at; Expr of both sides. -/
import Derived.Test.YtbfficialcnedaaCkY
namespace Go.Proofs.Ytbfficialcnedaa.Ck
open Go Go.Lib Go.RowKit Go.Proofs.Ytbfficialcnedaa Go.Maps

/-- What Expr gives: the sort, and the error. -/
theorem expr_any (op num : Int) (tx : ByteArray) (args : List Ex) (A : Option Addr) (d n c : Nat) (w : World) (hA : XA w d A args) (hn : args.length = n) (hc : n ≤ c) (hm : c ≤ maxLen) (ht : tx.size ≤ maxLen) :
    Calls Try.prog 83 #[.agg #[.int .i64 op, .int .i64 num, .string tx, .slice A n c]] w (SoOut 16 (.mk op num tx args) w) := by
  have HB := Lib.hid (below_one w (.cells #[.int .i64 op, .int .i64 num, .string tx, .slice A n c] 58))
  obtain ⟨c0, c1, c2, c3⟩ := four (Blk.new w 58 #[.int .i64 op, .int .i64 num, .string tx, .slice A n c])
  have HC := Lib.hid (sortAt_any 16 1 (by decide) (by decide) op num tx args A d n c _ (hA.below HB.out) hn hc hm ht)
  unfold SoOut at HC
  clear hA hn
  go_enter Try.func83, Try.ntmps83
  go_wp2_with (go_at_call 94; (with_reducible refine HC.out.mono ?_); rintro e w1 ⟨rfl, hb1⟩; have HB1 := Lib.hid (HB.out.trans (hb1.mono HB.out.size)); clear hb1 c0 c1 c2 c3)
  go_ret2
  exact ⟨rfl, HB1.out⟩
end Go.Proofs.Ytbfficialcnedaa.Ck
