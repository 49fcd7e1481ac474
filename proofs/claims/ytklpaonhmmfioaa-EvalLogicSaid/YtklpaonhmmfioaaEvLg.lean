/- What the law on negations wants: valid expressions and their operands in memory. -/
import Derived.Test.YtklpaonhmmfioaaEvL2
namespace Go.Proofs.Ytklpaonhmmfioaa.Ck
open Go Go.Lib Go.RowKit Go.Proofs.Ytklpaonhmmfioaa Go.Maps

def LgS (w0 : World) (p : Nat) (o1 n1 o2 n2 : Int) (t1 t2 : ByteArray) (A1 A2 : Option Addr) (m1 c1 m2 c2 : Nat) (v : En) (W : World) : Prop := Below w0.heap.size w0 W ∧ Blk W p 24 #[.int .i64 o1, .int .i64 n1, .string t1, .slice A1 m1 c1] ∧ Blk W (p + 1) 24 #[.int .i64 o2, .int .i64 n2, .string t2, .slice A2 m2 c2] ∧ Blk W (p + 1 + 1) 26 #[.int .i64 v.a0, .int .i64 v.a1, .int .i64 v.a2, .int .i64 v.a3, .int .i64 v.a4, .int .i64 v.a5, .string v.zn, .string v.bn, .bool v.fm]
theorem LgS.keep {w0 W : World} {p : Nat} {o1 n1 o2 n2 : Int} {t1 t2 : ByteArray} {A1 A2 : Option Addr} {m1 c1 m2 c2 : Nat} {v : En} {W' : World} (h : LgS w0 p o1 n1 o2 n2 t1 t2 A1 A2 m1 c1 m2 c2 v W) (hb : Below W.heap.size W W') : LgS w0 p o1 n1 o2 n2 t1 t2 A1 A2 m1 c1 m2 c2 v W' := ⟨h.1.trans (hb.mono h.1.size), h.2.1.below hb h.2.1.lt, h.2.2.1.below hb h.2.2.1.lt, h.2.2.2.below hb h.2.2.2.lt⟩
theorem LgS.drew {w0 W : World} {p : Nat} {o1 n1 o2 n2 : Int} {t1 t2 : ByteArray} {A1 A2 : Option Addr} {m1 c1 m2 c2 : Nat} {v : En} (h : LgS w0 p o1 n1 o2 n2 t1 t2 A1 A2 m1 c1 m2 c2 v W) : LgS w0 p o1 n1 o2 n2 t1 t2 A1 A2 m1 c1 m2 c2 v W.drew := h.keep ⟨rfl, rfl, rfl, Nat.le_refl _, fun _ _ => rfl⟩
theorem LgS.cells {w0 W : World} {p : Nat} {o1 n1 o2 n2 : Int} {t1 t2 : ByteArray} {A1 A2 : Option Addr} {m1 c1 m2 c2 : Nat} {v : En} (h : LgS w0 p o1 n1 o2 n2 t1 t2 A1 A2 m1 c1 m2 c2 v W) : (W.cell? ⟨p, 0, none⟩ = some (.int .i64 o1) ∧ W.cell? ⟨p, 1, none⟩ = some (.int .i64 n1) ∧ W.cell? ⟨p, 2, none⟩ = some (.string t1) ∧ W.cell? ⟨p, 3, none⟩ = some (.slice A1 m1 c1)) ∧ (W.cell? ⟨p + 1, 0, none⟩ = some (.int .i64 o2) ∧ W.cell? ⟨p + 1, 1, none⟩ = some (.int .i64 n2) ∧ W.cell? ⟨p + 1, 2, none⟩ = some (.string t2) ∧ W.cell? ⟨p + 1, 3, none⟩ = some (.slice A2 m2 c2)) ∧ W.cell? ⟨p + 1 + 1, 0, none⟩ = some (.int .i64 v.a0) ∧ W.cell? ⟨p + 1 + 1, 1, none⟩ = some (.int .i64 v.a1) ∧ W.cell? ⟨p + 1 + 1, 2, none⟩ = some (.int .i64 v.a2) ∧ W.cell? ⟨p + 1 + 1, 3, none⟩ = some (.int .i64 v.a3) ∧ W.cell? ⟨p + 1 + 1, 4, none⟩ = some (.int .i64 v.a4) ∧ W.cell? ⟨p + 1 + 1, 5, none⟩ = some (.int .i64 v.a5) ∧ W.cell? ⟨p + 1 + 1, 6, none⟩ = some (.string v.zn) ∧ W.cell? ⟨p + 1 + 1, 7, none⟩ = some (.string v.bn) ∧ W.cell? ⟨p + 1 + 1, 8, none⟩ = some (.bool v.fm) := ⟨four h.2.1, four h.2.2.1, nine h.2.2.2⟩
theorem LgS.new (w : World) (o1 n1 o2 n2 : Int) (t1 t2 : ByteArray) (A1 A2 : Option Addr) (m1 c1 m2 c2 : Nat) (v : En) : LgS w w.heap.size o1 n1 o2 n2 t1 t2 A1 A2 m1 c1 m2 c2 v (((w.alloc (.cells #[.int .i64 o1, .int .i64 n1, .string t1, .slice A1 m1 c1] 24)).alloc (.cells #[.int .i64 o2, .int .i64 n2, .string t2, .slice A2 m2 c2] 24)).alloc (.cells #[.int .i64 v.a0, .int .i64 v.a1, .int .i64 v.a2, .int .i64 v.a3, .int .i64 v.a4, .int .i64 v.a5, .string v.zn, .string v.bn, .bool v.fm] 26)) := by
  refine ⟨((below_one w _).alloc (by simp) _).alloc (by simp; omega) _, ((Blk.new w _ _).alloc _).alloc _, ?_, ?_⟩
  · have h := (Blk.new (w.alloc (.cells #[.int .i64 o1, .int .i64 n1, .string t1, .slice A1 m1 c1] 24)) 24 #[.int .i64 o2, .int .i64 n2, .string t2, .slice A2 m2 c2]).alloc (.cells #[.int .i64 v.a0, .int .i64 v.a1, .int .i64 v.a2, .int .i64 v.a3, .int .i64 v.a4, .int .i64 v.a5, .string v.zn, .string v.bn, .bool v.fm] 26)
    rwa [show (w.alloc (.cells #[.int .i64 o1, .int .i64 n1, .string t1, .slice A1 m1 c1] 24)).heap.size = w.heap.size + 1 by simp] at h
  · have h := Blk.new ((w.alloc (.cells #[.int .i64 o1, .int .i64 n1, .string t1, .slice A1 m1 c1] 24)).alloc (.cells #[.int .i64 o2, .int .i64 n2, .string t2, .slice A2 m2 c2] 24)) 26 #[.int .i64 v.a0, .int .i64 v.a1, .int .i64 v.a2, .int .i64 v.a3, .int .i64 v.a4, .int .i64 v.a5, .string v.zn, .string v.bn, .bool v.fm]
    rwa [show ((w.alloc (.cells #[.int .i64 o1, .int .i64 n1, .string t1, .slice A1 m1 c1] 24)).alloc (.cells #[.int .i64 o2, .int .i64 n2, .string t2, .slice A2 m2 c2] 24)).heap.size = w.heap.size + 1 + 1 by simp] at h
theorem LgS.op1 {w0 W : World} {p : Nat} {o1 n1 o2 n2 : Int} {t1 t2 : ByteArray} {A1 A2 : Option Addr} {m1 c1 m2 c2 : Nat} {v : En} {d : Nat} {us : List Ex} (h : LgS w0 p o1 n1 o2 n2 t1 t2 A1 A2 m1 c1 m2 c2 v W) (k : Op1 w0 d t1 A1 m1 c1 us) : Op1 W d t1 A1 m1 c1 us := k.keep h.1
theorem LgS.op2 {w0 W : World} {p : Nat} {o1 n1 o2 n2 : Int} {t1 t2 : ByteArray} {A1 A2 : Option Addr} {m1 c1 m2 c2 : Nat} {v : En} {d : Nat} {us : List Ex} (h : LgS w0 p o1 n1 o2 n2 t1 t2 A1 A2 m1 c1 m2 c2 v W) (k : Op1 w0 d t2 A2 m2 c2 us) : Op1 W d t2 A2 m2 c2 us := k.keep h.1
theorem mkS1 {k : Nat} {a : Ex} (h : sortX k a = (3, 0)) : sortX (k + 1) (e1 a) = (3, 0) := by
  have hs : sorts (sortX k) [a] = ([3], 0) := by rw [sorts, h]; rfl
  show sortX (k + 1) (.mk 4 0 ⟨#[]⟩ [a]) = _
  rw [sortX_fin (show ownE 4 0 ⟨#[]⟩ 1 = 0 by decide +kernel) (by rw [hs]), hs]; rfl
theorem mkS2 {k : Nat} {op : Int} {a b : Ex} (hop : op = 5 ∨ op = 6) (h : sortX k a = (3, 0)) (h2 : sortX k b = (3, 0)) : sortX (k + 1) (e2 op a b) = (3, 0) := by
  have hs : sorts (sortX k) [a, b] = ([3, 3], 0) := by rw [sorts, h, sorts, h2]; rfl
  show sortX (k + 1) (.mk op 0 ⟨#[]⟩ [a, b]) = _
  rcases hop with rfl | rfl
  · rw [sortX_fin (show ownE 5 0 ⟨#[]⟩ 2 = 0 by decide +kernel) (by rw [hs]), hs]; rfl
  · rw [sortX_fin (show ownE 6 0 ⟨#[]⟩ 2 = 0 by decide +kernel) (by rw [hs]), hs]; rfl
theorem dnS1 {k : Nat} {a : Ex} {s : Int} (h : sortX (k + 1) (e1 a) = (s, 0)) : sortX k a = (3, 0) := by
  rcases sort_cases (show sortX (k + 1) (.mk 4 0 ⟨#[]⟩ [a]) = (s, 0) from h) with ⟨h1, -⟩ | ⟨h1, -⟩ | ⟨h1, -⟩ | ⟨-, -, b, hb, hs⟩ | ⟨h1, -⟩ | ⟨h1, -⟩ | ⟨h1, -⟩ | ⟨h1, -⟩
  · exact absurd h1 (by decide)
  · exact absurd h1 (by decide)
  · exact absurd h1 (by decide)
  · cases hb; exact hs
  · exact absurd h1 (by decide)
  · exact absurd h1 (by decide)
  · exact absurd h1 (by decide)
  · exact absurd h1 (by decide)
theorem hl0 {v : En} {k : Nat} {e : Ex} {q : Bool} (h : sortX k e = (3, 0)) (hk : k ≤ 16) (hq : hldV v e = q) : hldR v e = q := by unfold hldR; rw [if_pos (ev_mono hk h), hq]
theorem hlN {v : En} {a : Ex} : hldV v (e1 a) = !hldV v a := hldV_not v 0 ⟨#[]⟩ a
theorem hlA {v : En} {a b : Ex} : hldV v (e2 5 a b) = (hldV v a && hldV v b) := hldV_and v 0 ⟨#[]⟩ a b
theorem hlO {v : En} {a b : Ex} : hldV v (e2 6 a b) = (hldV v a || hldV v b) := hldV_or v 0 ⟨#[]⟩ a b
theorem lgH1 {v : En} {a : Ex} {q : Bool} (hv : hldR v (e1 a) = q) (g d : Nat) (W : World) (h : XA W d (some ⟨g, 0, none⟩) [a]) : Calls Try.prog 16 #[.agg #[.int .i64 4, .int .i64 0, .string ⟨#[]⟩, .slice (some ⟨g, 0, none⟩) 1 1], .agg #[.int .i64 v.a0, .int .i64 v.a1, .int .i64 v.a2, .int .i64 v.a3, .int .i64 v.a4, .int .i64 v.a5, .string v.zn, .string v.bn, .bool v.fm]] W fun e w' => e = .returned (.bool q) ∧ Below W.heap.size W w' :=
  evHolds_is (v := v) (op := 4) (num := 0) (tx := ⟨#[]⟩) (args := [a]) hv (some ⟨g, 0, none⟩) d 1 1 W h rfl (Nat.le_refl _) (by decide) (by decide)
theorem lgH2 {v : En} {op : Int} {a b : Ex} {q : Bool} (hv : hldR v (e2 op a b) = q) (g d : Nat) (W : World) (h : XA W d (some ⟨g, 0, none⟩) [a, b]) : Calls Try.prog 16 #[.agg #[.int .i64 op, .int .i64 0, .string ⟨#[]⟩, .slice (some ⟨g, 0, none⟩) 2 2], .agg #[.int .i64 v.a0, .int .i64 v.a1, .int .i64 v.a2, .int .i64 v.a3, .int .i64 v.a4, .int .i64 v.a5, .string v.zn, .string v.bn, .bool v.fm]] W fun e w' => e = .returned (.bool q) ∧ Below W.heap.size W w' :=
  evHolds_is (v := v) (op := op) (num := 0) (tx := ⟨#[]⟩) (args := [a, b]) hv (some ⟨g, 0, none⟩) d 2 2 W h rfl (Nat.le_refl _) (by decide) (by decide)
theorem lgE1 {a : Ex} {s x : Int} (hv : sortX 16 (e1 a) = (s, x)) (g d : Nat) (W : World) (h : XA W d (some ⟨g, 0, none⟩) [a]) : Calls Try.prog 20 #[.agg #[.int .i64 4, .int .i64 0, .string ⟨#[]⟩, .slice (some ⟨g, 0, none⟩) 1 1]] W fun e w' => e = .returned (.tuple #[.int .i64 s, .int .i64 x]) ∧ Below W.heap.size W w' :=
  expr_is (op := 4) (num := 0) (tx := ⟨#[]⟩) (args := [a]) hv (some ⟨g, 0, none⟩) d 1 1 W h rfl (Nat.le_refl _) (by decide) (by decide)
end Go.Proofs.Ytklpaonhmmfioaa.Ck
