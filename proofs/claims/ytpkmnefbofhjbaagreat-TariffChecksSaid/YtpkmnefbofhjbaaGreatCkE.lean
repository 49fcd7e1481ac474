/- Walks: the laws' awake; Count and SmallExpr of the reference. -/
import Derived.Test.YtpkmnefbofhjbaaGreatCkZ
import Derived.Test.YtpkmnefbofhjbaaGreatCkR
namespace Go.Proofs.YtpkmnefbofhjbaaGreat.Ck
open Go Go.Lib Go.RowKit Go.Proofs.YtpkmnefbofhjbaaGreat Go.Maps

theorem cell_lit (w : World) (cs : Array Value) (t : TypeId) (i : Nat) : (w.alloc (.cells cs t)).cell? ⟨w.heap.size, i, none⟩ = cs[i]? := (Blk.new w t cs).cell i
/-- Two expressions without operands in a block of their own. -/
theorem XA.lit2 (w : World) (o1 n1 o2 n2 : Int) (t1 t2 : ByteArray) (h1 : t1.size ≤ maxLen) (h2 : t2.size ≤ maxLen) :
    XA (w.alloc (.cells #[.int .i64 o1, .int .i64 n1, .string t1, .slice none 0 0, .int .i64 o2, .int .i64 n2, .string t2, .slice none 0 0] 67)) 1 (some ⟨w.heap.size, 0, none⟩) [.mk o1 n1 t1 [], .mk o2 n2 t2 []] := fun i hi => by
  match i, hi with
  | 0, _ => exact ⟨w.heap.size, 0, o1, n1, t1, [], none, 0, rfl, by simp, rfl, cell_lit _ _ _ _, cell_lit _ _ _ _, cell_lit _ _ _ _, cell_lit _ _ _ _, Nat.le_refl _, by decide, h1, rfl⟩
  | 1, _ => exact ⟨w.heap.size, 0, o2, n2, t2, [], none, 0, rfl, by simp, rfl, cell_lit _ _ _ _, cell_lit _ _ _ _, cell_lit _ _ _ _, cell_lit _ _ _ _, Nat.le_refl _, by decide, h2, rfl⟩
theorem SpR.lit2 (w : World) (a b : Sp) : SpR (w.alloc (.cells #[.int .i64 a.up, .int .i64 a.qu, .int .i64 a.pr, .int .i64 b.up, .int .i64 b.qu, .int .i64 b.pr] 102)) (some ⟨w.heap.size, 0, none⟩) [a, b] := fun k hk => by
  match k, hk with
  | 0, _ => exact ⟨_, 0, rfl, by simp, cell_lit _ _ _ _, cell_lit _ _ _ _, cell_lit _ _ _ _⟩
  | 1, _ => exact ⟨_, 0, rfl, by simp, cell_lit _ _ _ _, cell_lit _ _ _ _, cell_lit _ _ _ _⟩
theorem SpR.lit3 (w : World) (a b c : Sp) : SpR (w.alloc (.cells #[.int .i64 a.up, .int .i64 a.qu, .int .i64 a.pr, .int .i64 b.up, .int .i64 b.qu, .int .i64 b.pr, .int .i64 c.up, .int .i64 c.qu, .int .i64 c.pr] 102)) (some ⟨w.heap.size, 0, none⟩) [a, b, c] := fun k hk => by
  match k, hk with
  | 0, _ => exact ⟨_, 0, rfl, by simp, cell_lit _ _ _ _, cell_lit _ _ _ _, cell_lit _ _ _ _⟩
  | 1, _ => exact ⟨_, 0, rfl, by simp, cell_lit _ _ _ _, cell_lit _ _ _ _, cell_lit _ _ _ _⟩
  | 2, _ => exact ⟨_, 0, rfl, by simp, cell_lit _ _ _ _, cell_lit _ _ _ _, cell_lit _ _ _ _⟩
theorem expr_is {op num : Int} {tx : ByteArray} {args : List Ex} {s v : Int} (h : sortX 16 (.mk op num tx args) = (s, v)) (A : Option Addr) (d n c : Nat) (w : World) (hA : XA w d A args) (hn : args.length = n) (hc : n ≤ c) (hm : c ≤ maxLen) (ht : tx.size ≤ maxLen) :
    Calls Tryz.prog 81 #[.agg #[.int .i64 op, .int .i64 num, .string tx, .slice A n c]] w fun e w' => e = .returned (.tuple #[.int .i64 s, .int .i64 v]) ∧ Below w.heap.size w w' := by
  have := expr_any op num tx args A d n c w hA hn hc hm ht
  unfold SoOut at this
  rw [h] at this
  exact this
theorem steps_is {l : List Sp} {v : Int} (h : stepsE l = v) (A : Option Addr) (n c : Nat) (w : World) (hA : SpR w A l) (hn : l.length = n) (hc : n ≤ c) (hm : c ≤ maxLen) :
    Calls Tryz.prog 78 #[.slice A n c] w fun e w' => e = .returned (.int .i64 v) ∧ Below w.heap.size w w' := by
  subst h; exact steps_any A n c l w hA hn hc hm
def units : ByteArray := ⟨#[117, 110, 105, 116, 115]⟩
def zoneT : ByteArray := ⟨#[122, 111, 110, 101]⟩
theorem aw1 : sortX 16 (.mk 9 0 ⟨#[]⟩ [.mk 1 60 ⟨#[]⟩ [], .mk 3 0 ⟨#[117, 110, 105, 116, 115]⟩ []]) = (3, 0) := by decide +kernel
theorem aw2 : sortX 16 (.mk 11 0 ⟨#[]⟩ [.mk 1 60 ⟨#[]⟩ [], .mk 3 0 ⟨#[122, 111, 110, 101]⟩ []]) = (0, 7) := by decide +kernel
theorem aw3 : stepsE [⟨60, 60, 1000⟩, ⟨0, 1, 20⟩] = 0 := by decide +kernel
theorem aw4 : stepsE [⟨60, 1, 0⟩, ⟨50, 1, 0⟩, ⟨0, 1, 0⟩] = 9 := by decide +kernel
theorem nameV (s : ByteArray) (v : Bool) (h : Pd.nmOk s = v) (w : World) (hs : s.size ≤ maxLen) : Calls Tryz.prog 30 #[.string s] w fun e w' => e = .returned (.bool v) ∧ Below w.heap.size w w' := by
  subst h; exact Pd.nameValid_any s w hs
set_option maxRecDepth 100000 in
set_option maxHeartbeats 8000000 in
theorem tariff_name (nm : ByteArray) (fr : Int) (sp : Bool) (v3 v4 v5 v6 : Value) (w : World) (h : Pd.nmOk nm = false) (hs : nm.size ≤ maxLen) :
    Calls Tryz.prog 16 #[.agg #[.string nm, .int .i64 fr, .bool sp, v3, v4, v5, v6]] w fun e w' => e = .returned (.int .i64 8) ∧ Below w.heap.size w w' := by
  have HB := Lib.hid (below_one w (.cells #[.string nm, .int .i64 fr, .bool sp, v3, v4, v5, v6] 32))
  have c0 := (Blk.new w 32 #[.string nm, .int .i64 fr, .bool sp, v3, v4, v5, v6]).cell 0
  have HN := Lib.hid (fun W => nameV nm _ h W hs)
  clear h hs
  go_enter Tryz.func16, Tryz.ntmps16
  go_wp2_with (go_at_call 30; (with_reducible refine (HN.out _).mono ?_); rintro e w1 ⟨rfl, hb1⟩; have HB1 := Lib.hid (HB.out.trans (hb1.mono HB.out.size)); clear hb1 c0)
  go_ret
  exact ⟨rfl, HB1.out⟩
end Go.Proofs.YtpkmnefbofhjbaaGreat.Ck
