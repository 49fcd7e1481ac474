/- Walks: number and the values of two operands, in the program. -/
import Derived.Test.YtklpaonhmmfioaaEvO
import Derived.Deep.RegionHeld3
import Derived.RegionTactic
namespace Go.Proofs.Ytklpaonhmmfioaa.Ck
open Go Go.Lib Go.RowKit Go.Proofs.Ytklpaonhmmfioaa

/-- Two results in slots, the third in a cell. -/
theorem results_two_cell {P : Program} {fn : Func} {p u t : Tmp} {ty : TypeId} (h : fn.results = #[.tmp u, .tmp t, .cell p ty]) (tmps : Array Value) (w : World) (g : Nat) (v : Value) (d : TypeDesc)
    (hp : tmps.getD p undef = .pointer (some ⟨g, 0, none⟩)) (hc : w.cell? ⟨g, 0, none⟩ = some v)
    (hu : P.underlying ty = some d) (hd : (match d with | .struct _ | .array _ _ => true | _ => false) = false) :
    (results fn tmps).run P w = .ok (.tuple #[tmps.getD u undef, tmps.getD t undef, v]) w := by
  have hp' : tmps[p]?.getD undef = .pointer (some ⟨g, 0, none⟩) := by simpa using hp
  have hagg : (isAgg ty).run P w = .ok false w := by
    unfold isAgg
    rw [Sem.run_bind, run_underlying hu w]
    cases d <;> simp_all
  simp [results, h, hp', asAddr, loadVar, Sem.run_bind, hagg, hc]
/-- The state of the closure that evaluates an operand: the expression, the attributes, whether all operands had a value. -/
def OpSt (w0 : World) (g : Nat) (v : En) (ec : Array Value) (z : Bool) (w : World) : Prop :=
  Below w0.heap.size w0 w ∧ w0.heap.size ≤ g ∧ Blk w g 24 ec ∧ Blk w (g + 1) 26 #[.int .i64 v.a0, .int .i64 v.a1, .int .i64 v.a2, .int .i64 v.a3, .int .i64 v.a4, .int .i64 v.a5, .string v.zn, .string v.bn, .bool v.fm] ∧ Blk w (g + 1 + 1) 4 #[.bool z]
/-- What number does for operands with so many levels left. -/
abbrev NumC (k : Nat) (v : En) : Prop := ∀ (o m : Int) (t : ByteArray) (us : List Ex) (A : Option Addr) (d n c : Nat) (W : World) (x : Int) (b : Bool), sortX k (.mk o m t us) = (1, 0) → XA W d A us → us.length = n → n ≤ c → c ≤ maxLen → t.size ≤ maxLen → OV (numV v (.mk o m t us)) x b →
  Calls Try.prog 25 #[.agg #[.int .i64 o, .int .i64 m, .string t, .slice A n c], .agg #[.int .i64 v.a0, .int .i64 v.a1, .int .i64 v.a2, .int .i64 v.a3, .int .i64 v.a4, .int .i64 v.a5, .string v.zn, .string v.bn, .bool v.fm]] W fun e w' => e = .returned (.tuple #[.int .i64 x, .bool b]) ∧ Below W.heap.size W w'
set_option maxRecDepth 100000 in
set_option maxHeartbeats 8000000 in
theorem operand_is {k : Nat} {v : En} (H : NumC k v) {o m : Int} {t : ByteArray} {us : List Ex} {x : Int} {b : Bool} (hs : sortX k (.mk o m t us) = (1, 0)) (hv : OV (numV v (.mk o m t us)) x b) (A : Option Addr) (d n c : Nat) (w0 : World) (hA : XA w0 d A us) (hn : us.length = n) (hc : n ≤ c) (hm : c ≤ maxLen) (ht : t.size ≤ maxLen)
    (g : Nat) (ec : Array Value) (z : Bool) (W : World) (hS : OpSt w0 g v ec z W) :
    Calls Try.prog 51 #[.agg #[.int .i64 o, .int .i64 m, .string t, .slice A n c], .pointer (some ⟨g + 1, 0, none⟩), .pointer (some ⟨g + 1 + 1, 0, none⟩)] W fun e w' => e = .returned (.int .i64 x) ∧ OpSt w0 g v ec (z && b) w' := by
  obtain ⟨s1, s2, s3, s5, s6⟩ := hS
  have hb0 := below_one W (.cells #[.int .i64 o, .int .i64 m, .string t, .slice A n c] 24)
  obtain ⟨c0, c1, c2, c3⟩ := four (Blk.new W 24 #[.int .i64 o, .int .i64 m, .string t, .slice A n c])
  obtain ⟨d0, d1, d2, d3, d4, d5, d6, d7, d8⟩ := nine (s5.below hb0 s5.lt)
  have hb2 : Below w0.heap.size w0 (W.alloc (.cells #[.int .i64 o, .int .i64 m, .string t, .slice A n c] 24)) := s1.trans (hb0.mono s1.size)
  have HC := Lib.hid (H o m t us A d n c _ x b hs (hA.below hb2) hn hc hm ht hv)
  have HS1 := Lib.hid s1; have HS2 := Lib.hid s2; have HS3 := Lib.hid s3; have HS5 := Lib.hid s5; have HS6 := Lib.hid s6
  have HB := Lib.hid hb0
  clear s1 s2 s3 s5 s6 hb2 hA hn hv hs hb0
  cases z
  all_goals
    go_enter Try.func51, Try.ntmps51
    go_wp2_with (go_at_call 25; (with_reducible refine HC.out.mono ?_); rintro e w1 ⟨rfl, hb1⟩; have HB1 := Lib.hid (HB.out.trans (hb1.mono HB.out.size)); clear hb1 c0 c1 c2 c3 d0 d1 d2 d3 d4 d5 d6 d7 d8; have HQ := Lib.hid (HS6.out.below HB1.out HS6.out.lt); have q0 := HQ.out.cell 0; have q1 := HQ.out.frozen 0)
    go_ret
    have hsz := HS2.out
    refine ⟨rfl, (HS1.out.trans (HB1.out.mono HS1.out.size)).setCell (show _ ≤ g + 1 + 1 by omega) _, HS2.out, (HS3.out.below HB1.out HS3.out.lt).far (show g ≠ g + 1 + 1 by omega) _, (HS5.out.below HB1.out HS5.out.lt).far (show g + 1 ≠ g + 1 + 1 by omega) _, ?_⟩
    exact HQ.out.set_ 0 _
theorem OpSt.new (w : World) (v : En) (ec : Array Value) : OpSt w w.heap.size v ec true (((w.alloc (.cells ec 24)).alloc (.cells #[.int .i64 v.a0, .int .i64 v.a1, .int .i64 v.a2, .int .i64 v.a3, .int .i64 v.a4, .int .i64 v.a5, .string v.zn, .string v.bn, .bool v.fm] 26)).alloc (.cells #[.bool true] 4)) := by
  refine ⟨((below_one w _).alloc (by simp) _).alloc (by simp; omega) _, Nat.le_refl _, ((Blk.new w _ _).alloc _).alloc _, ?_, ?_⟩
  · have h := (Blk.new (w.alloc (.cells ec 24)) 26 #[.int .i64 v.a0, .int .i64 v.a1, .int .i64 v.a2, .int .i64 v.a3, .int .i64 v.a4, .int .i64 v.a5, .string v.zn, .string v.bn, .bool v.fm]).alloc (.cells #[.bool true] 4)
    rwa [show (w.alloc (.cells ec 24)).heap.size = w.heap.size + 1 by simp] at h
  · have h := Blk.new ((w.alloc (.cells ec 24)).alloc (.cells #[.int .i64 v.a0, .int .i64 v.a1, .int .i64 v.a2, .int .i64 v.a3, .int .i64 v.a4, .int .i64 v.a5, .string v.zn, .string v.bn, .bool v.fm] 26)) 4 #[.bool true]
    rwa [show ((w.alloc (.cells ec 24)).alloc (.cells #[.int .i64 v.a0, .int .i64 v.a1, .int .i64 v.a2, .int .i64 v.a3, .int .i64 v.a4, .int .i64 v.a5, .string v.zn, .string v.bn, .bool v.fm] 26)).heap.size = w.heap.size + 1 + 1 by simp] at h
theorem OpSt.drew {w0 W : World} {g : Nat} {v : En} {ec : Array Value} {z : Bool} (h : OpSt w0 g v ec z W) : OpSt w0 g v ec z W.drew := ⟨⟨h.1.os, h.1.tape, h.1.output, h.1.size, h.1.block⟩, h.2.1, h.2.2.1, h.2.2.2.1, h.2.2.2.2⟩
theorem OpSt.cells {w0 W : World} {g : Nat} {v : En} {z : Bool} {x0 x1 x2 x3 : Value} (h : OpSt w0 g v #[x0, x1, x2, x3] z W) {b : Nat} {i0 i1 i2 i3 i4 i5 i6 i7 : Nat} {y0 y1 y2 y3 y4 y5 y6 y7 : Value} (he : w0.cell? ⟨b, i0, none⟩ = some y0 ∧ w0.cell? ⟨b, i1, none⟩ = some y1 ∧ w0.cell? ⟨b, i2, none⟩ = some y2 ∧ w0.cell? ⟨b, i3, none⟩ = some y3 ∧ w0.cell? ⟨b, i4, none⟩ = some y4 ∧ w0.cell? ⟨b, i5, none⟩ = some y5 ∧ w0.cell? ⟨b, i6, none⟩ = some y6 ∧ w0.cell? ⟨b, i7, none⟩ = some y7) (hb : b < w0.heap.size) :
    W.cell? ⟨g, 3, none⟩ = some x3 ∧ W.cell? ⟨b, i0, none⟩ = some y0 ∧ W.cell? ⟨b, i1, none⟩ = some y1 ∧ W.cell? ⟨b, i2, none⟩ = some y2 ∧ W.cell? ⟨b, i3, none⟩ = some y3 ∧ W.cell? ⟨b, i4, none⟩ = some y4 ∧ W.cell? ⟨b, i5, none⟩ = some y5 ∧ W.cell? ⟨b, i6, none⟩ = some y6 ∧ W.cell? ⟨b, i7, none⟩ = some y7 := by
  obtain ⟨e0, e1, e2, e3, e4, e5, e6, e7⟩ := he
  have f := fun i => h.1.cell (p := ⟨b, i, none⟩) hb
  exact ⟨h.2.2.1.cell 3, (f _).trans e0, (f _).trans e1, (f _).trans e2, (f _).trans e3, (f _).trans e4, (f _).trans e5, (f _).trans e6, (f _).trans e7⟩
set_option maxRecDepth 100000 in
set_option maxHeartbeats 16000000 in
theorem both_is {k : Nat} {v : En} (H : NumC k v) {op num : Int} {tx : ByteArray} {a b : Ex} {x y : Int} {p q : Bool} (ha : sortX k a = (1, 0)) (hb : sortX k b = (1, 0)) (hva : OV (numV v a) x p) (hvb : OV (numV v b) y q) (A : Option Addr) (d c : Nat) (w : World) (hA : XA w d A [a, b]) (hc : 2 ≤ c) (hm : c ≤ maxLen) :
    Calls Try.prog 35 #[.agg #[.int .i64 op, .int .i64 num, .string tx, .slice A 2 c], .agg #[.int .i64 v.a0, .int .i64 v.a1, .int .i64 v.a2, .int .i64 v.a3, .int .i64 v.a4, .int .i64 v.a5, .string v.zn, .string v.bn, .bool v.fm]] w fun e w' => e = .returned (.tuple #[.int .i64 x, .int .i64 y, .bool (p && q)]) ∧ Below w.heap.size w w' := by
  obtain ⟨A0, hA0⟩ : ∃ A0, A = A0 := ⟨_, rfl⟩
  obtain ⟨b0, off, o1, n1, t1, us1, A1, c1, eA, hbl, hi1, e0, e1, e2, e3, u1, u2, u3, X1⟩ := hA.at (i := 0) (by simp)
  obtain ⟨b0', off', o2, n2, t2, us2, A2, c2, eA', -, hi2, f0, f1, f2, f3, v1, v2, v3, X2⟩ := hA.at (i := 1) (by simp)
  rw [eA] at eA'
  obtain ⟨rfl, rfl⟩ : b0 = b0' ∧ off = off' := by cases eA'; exact ⟨rfl, rfl⟩
  obtain rfl : a = .mk o1 n1 t1 us1 := by simpa using hi1
  obtain rfl : b = .mk o2 n2 t2 us2 := by simpa using hi2
  subst eA
  simp only [Nat.zero_mul, Nat.one_mul, Nat.add_zero] at e0 e1 e2 e3 f0 f1 f2 f3
  obtain ⟨m1, hm1⟩ : ∃ x, us1.length = x := ⟨_, rfl⟩
  obtain ⟨m2, hm2⟩ : ∃ x, us2.length = x := ⟨_, rfl⟩
  rw [hm1] at e3 u1
  rw [hm2] at f3 v1
  obtain ⟨g, hg⟩ : ∃ g, w.heap.size = g := ⟨_, rfl⟩
  have HCA := Lib.hid (fun ec z W (hS : Hid (OpSt w g v ec z W)) => operand_is H ha hva A1 (d - 1) m1 c1 w X1 hm1 u1 u2 u3 g ec z W hS.out)
  have HCB := Lib.hid (fun ec z W (hS : Hid (OpSt w g v ec z W)) => operand_is H hb hvb A2 (d - 1) m2 c2 w X2 hm2 v1 v2 v3 g ec z W hS.out)
  have HE := Lib.hid (show w.cell? ⟨b0, off, none⟩ = some (.int .i64 o1) ∧ w.cell? ⟨b0, off + 1, none⟩ = some (.int .i64 n1) ∧ w.cell? ⟨b0, off + 2, none⟩ = some (.string t1) ∧ w.cell? ⟨b0, off + 3, none⟩ = some (.slice A1 m1 c1) ∧ w.cell? ⟨b0, off + 4, none⟩ = some (.int .i64 o2) ∧ w.cell? ⟨b0, off + 4 + 1, none⟩ = some (.int .i64 n2) ∧ w.cell? ⟨b0, off + 4 + 2, none⟩ = some (.string t2) ∧ w.cell? ⟨b0, off + 4 + 3, none⟩ = some (.slice A2 m2 c2) from ⟨e0, e1, e2, e3, f0, f1, f2, f3⟩)
  have HL := Lib.hid hbl
  have HG := Lib.hid hg
  clear H ha hb hva hvb hA hi1 hi2 e0 e1 e2 e3 f0 f1 f2 f3 u1 u2 u3 v1 v2 v3 X1 X2 hm1 hm2 hA0 hbl
  go_enter Try.func35, Try.ntmps35
  go_upto_region 3 with fail
  have hst : OpSt w w.heap.size v #[.int .i64 op, .int .i64 num, .string tx, .slice (some ⟨b0, off, none⟩) 2 c] true (((w.alloc (.cells #[.int .i64 op, .int .i64 num, .string tx, .slice (some ⟨b0, off, none⟩) 2 c] 24)).alloc (.cells #[.int .i64 v.a0, .int .i64 v.a1, .int .i64 v.a2, .int .i64 v.a3, .int .i64 v.a4, .int .i64 v.a5, .string v.zn, .string v.bn, .bool v.fm] 26)).alloc (.cells #[.bool true] 4)) := OpSt.new w v _
  rw [HG.out] at hst
  generalize (((w.alloc (.cells #[.int .i64 op, .int .i64 num, .string tx, .slice (some ⟨b0, off, none⟩) 2 c] 24)).alloc (.cells #[.int .i64 v.a0, .int .i64 v.a1, .int .i64 v.a2, .int .i64 v.a3, .int .i64 v.a4, .int .i64 v.a5, .string v.zn, .string v.bn, .bool v.fm] 26)).alloc (.cells #[.bool true] 4)) = L at hst ⊢
  have HST := Lib.hid hst
  have HSD := Lib.hid hst.drew
  obtain ⟨k0, k1, k2, k3, k4, k5, k6, k7, k8⟩ := hst.cells HE.out HL.out
  clear hst
  go_region_held3 (fun w' => w'.cell? ⟨g, 3, none⟩ = some (.slice (some ⟨b0, off, none⟩) 2 c) ∧ w'.cell? ⟨b0, off, none⟩ = some (.int .i64 o1) ∧ w'.cell? ⟨b0, off + 1, none⟩ = some (.int .i64 n1) ∧ w'.cell? ⟨b0, off + 2, none⟩ = some (.string t1) ∧ w'.cell? ⟨b0, off + 3, none⟩ = some (.slice A1 m1 c1) ∧ w'.cell? ⟨b0, off + 4, none⟩ = some (.int .i64 o2) ∧ w'.cell? ⟨b0, off + 4 + 1, none⟩ = some (.int .i64 n2) ∧ w'.cell? ⟨b0, off + 4 + 2, none⟩ = some (.string t2) ∧ w'.cell? ⟨b0, off + 4 + 3, none⟩ = some (.slice A2 m2 c2))
    (first | exact HST.out.cells HE.out HL.out | exact HSD.out.cells HE.out HL.out | go_keep)
    (first
      | (go_at_call 51; (with_reducible refine (HCA.out _ _ _ HSD).mono ?_); rintro e w1 ⟨rfl, h1⟩; clear HST HSD; have HST := Lib.hid h1; clear h1)
      | (go_at_call 51; (with_reducible refine (HCB.out _ _ _ HST).mono ?_); rintro e w2 ⟨rfl, h2⟩; clear HST; have HST := Lib.hid h2; clear h2))
  have q0 := HST.out.2.2.2.2.cell 0
  have q1 := HST.out.2.2.2.2.frozen 0
  go_wp2_with fail
  go_region
  go_wp2_with fail
  have hq : (w2.setCell ⟨g + 1 + 1, 0, none⟩ (.bool (p && q))).drew.cell? ⟨g + 1 + 1, 0, none⟩ = some (.bool (p && q)) := (HST.out.2.2.2.2.set_ 0 (.bool (p && q))).cell 0
  have hsz := HST.out.2.1
  refine bodyPost_ret (v := .tuple #[.int .i64 x, .int .i64 y, .bool (p && q)]) (results_two_cell (p := 6) (u := 4) (t := 5) rfl _ _ (g + 1 + 1) (.bool (p && q)) _ rfl hq Try.underlying4 rfl) rfl ⟨rfl, (HST.out.1.setCell (show _ ≤ g + 1 + 1 by omega) _).drew⟩
set_option maxRecDepth 100000 in
set_option maxHeartbeats 16000000 in
/-- What number gives for a valid expression of the sort number. -/
theorem number_any (v : En) : ∀ k, NumC k v := by
  intro k
  induction k with
  | zero => intro o m t us A d n c W x b h; obtain ⟨j, hj⟩ := sort_pos h; cases hj
  | succ k ih =>
    intro op num tx args A d n c w x b hs hA hn hc hm ht hv
    have hb1 := below_one w (.cells #[.int .i64 op, .int .i64 num, .string tx, .slice A n c] 24)
    have hbk := (Blk.new w 24 #[.int .i64 op, .int .i64 num, .string tx, .slice A n c]).alloc (.cells #[.int .i64 v.a0, .int .i64 v.a1, .int .i64 v.a2, .int .i64 v.a3, .int .i64 v.a4, .int .i64 v.a5, .string v.zn, .string v.bn, .bool v.fm] 26)
    obtain ⟨c0, c1, c2, c3⟩ := four hbk
    have hek := (Blk.new (w.alloc (.cells #[.int .i64 op, .int .i64 num, .string tx, .slice A n c] 24)) 26 #[.int .i64 v.a0, .int .i64 v.a1, .int .i64 v.a2, .int .i64 v.a3, .int .i64 v.a4, .int .i64 v.a5, .string v.zn, .string v.bn, .bool v.fm])
    rw [show (w.alloc (.cells #[.int .i64 op, .int .i64 num, .string tx, .slice A n c] 24)).heap.size = w.heap.size + 1 by simp] at hek
    obtain ⟨d0, d1, d2, d3, d4, d5, d6, d7, d8⟩ := nine hek
    have HB := Lib.hid (hb1.alloc (by simp) (.cells #[.int .i64 v.a0, .int .i64 v.a1, .int .i64 v.a2, .int .i64 v.a3, .int .i64 v.a4, .int .i64 v.a5, .string v.zn, .string v.bn, .bool v.fm] 26))
    have HBK := Lib.hid hbk
    have HEK := Lib.hid hek
    clear hb1 hbk hek
    have hcs := sort_cases hs
    clear hs
    rcases hcs with ⟨rfl, rfl, -, -⟩ | ⟨rfl, -, h1⟩ | ⟨rfl, rfl, -⟩ | ⟨-, h1, -⟩ | ⟨-, h1, -⟩ | ⟨-, h1, -⟩ | ⟨-, h1, -⟩ | ⟨hop, -, a, e, rfl, ha, he⟩
    · rw [numV_num] at hv
      obtain ⟨rfl, rfl⟩ : x = num ∧ b = true := ⟨hv.1, hv.2⟩
      clear hv hA hn
      go_enter Try.func25, Try.ntmps25
      go_wp2_with fail
      go_ret2
      exact ⟨rfl, HB.out⟩
    · exact absurd h1 (by decide)
    · rw [numV_name] at hv
      have HAT := Lib.hid (fun W => attN_any v tx _ rfl W)
      obtain ⟨at1, hat⟩ : ∃ z, attN v tx = z := ⟨_, rfl⟩
      rw [hat] at hv HAT
      have HW := Lib.hid (fun W => evWithin_is hv W)
      clear hv hA hn hat
      go_enter Try.func25, Try.ntmps25
      go_wp2_with (first
        | (go_at_call 34; (with_reducible refine (HAT.out _).mono ?_); rintro e w1 ⟨rfl, hb1⟩; have HB1 := Lib.hid (HB.out.trans (hb1.mono HB.out.size)); clear hb1 c0 c1 c2 c3 d0 d1 d2 d3 d4 d5 d6 d7 d8)
        | (go_at_call 33; (with_reducible refine (HW.out _).mono ?_); rintro e w2 ⟨rfl, rfl⟩))
      go_ret2
      exact ⟨rfl, HB1.out⟩
    · exact absurd h1 (by decide)
    · exact absurd h1 (by decide)
    · exact absurd h1 (by decide)
    · exact absurd h1 (by decide)
    · obtain rfl : n = 2 := by rw [← hn]; rfl
      rw [numV_two v (by omega) (by omega)] at hv
      obtain ⟨y, p, hva⟩ := OV.ex (numV v a)
      obtain ⟨z, q, hve⟩ := OV.ex (numV v e)
      have HBO := Lib.hid (both_is ih (op := op) (num := num) (tx := tx) ha he hva hve A d c _ (hA.below HB.out) hc hm)
      have dop : (op == 1) = false := by simp; omega
      have dop3 : (op == 3) = false := by simp; omega
      clear hA hn
      cases hpq : (p && q)
      · rw [hpq] at HBO
        have hno : opO op (numV v a) (numV v e) = none := by
          cases p
          · rw [hva.no.1]; rfl
          · cases q
            · rw [hve.no.1]; cases numV v a <;> rfl
            · cases hpq
        rw [hno] at hv
        obtain ⟨rfl, rfl⟩ : x = 0 ∧ b = false := ⟨hv.1, hv.2⟩
        clear hv hva hve hno hpq ha he
        go_enter Try.func25, Try.ntmps25
        go_wp2_with (go_at_call 35; (with_reducible refine HBO.out.mono ?_); rintro e w1 ⟨rfl, hb1⟩; have HB1 := Lib.hid (HB.out.trans (hb1.mono HB.out.size)); clear hb1 c0 c1 c2 c3 d0 d1 d2 d3 d4 d5 d6 d7 d8)
        go_ret2
        exact ⟨rfl, HB1.out⟩
      · rw [hpq] at HBO
        obtain ⟨rfl, rfl⟩ : p = true ∧ q = true := by simpa using hpq
        have h1 := hva.yes; have h2 := hve.yes
        have HOP := Lib.hid (fun W => operate_is (op := op) (a := y) (b := z) (m := x) (h := b) (by rw [h1, h2] at hv; exact hv) hop (numV_le v ha h1) (numV_le v he h2) W)
        clear hv hva hve hpq ha he h1 h2
        go_enter Try.func25, Try.ntmps25
        go_wp2_with (first
          | (go_at_call 35; (with_reducible refine HBO.out.mono ?_); rintro e w1 ⟨rfl, hb1⟩; have HB1 := Lib.hid (HB.out.trans (hb1.mono HB.out.size)); clear c1 c2 c3 d0 d1 d2 d3 d4 d5 d6 d7 d8; replace c0 := (HBK.out.below hb1 HBK.out.lt).cell 0; clear hb1)
          | (go_at_call 36; (with_reducible refine (HOP.out _).mono ?_); rintro e w2 ⟨rfl, rfl⟩))
        go_ret2
        exact ⟨rfl, HB1.out⟩
end Go.Proofs.Ytklpaonhmmfioaa.Ck
