/- Walks: compare and holds, in the program. -/
import Derived.Test.YtklpaonhmmfioaaEvN
namespace Go.Proofs.Ytklpaonhmmfioaa.Ck
open Go Go.Lib Go.RowKit Go.Proofs.Ytklpaonhmmfioaa

theorem ev_in {f : Ex → Int × Int} : ∀ {l : List Ex}, (sorts f l).2 = 0 → ∀ e ∈ l, (f e).2 = 0
  | [], _, e, he => by cases he
  | x :: t, h, e, he => by
    rw [sorts] at h
    by_cases h0 : (f x).2 = 0
    · rw [if_pos h0] at h
      rcases List.mem_cons.1 he with rfl | he
      · exact h0
      · exact ev_in h e he
    · rw [if_neg h0] at h; exact absurd h h0
theorem ev_congr {f g : Ex → Int × Int} : ∀ {l : List Ex}, (∀ e ∈ l, f e = g e) → sorts f l = sorts g l
  | [], _ => rfl
  | x :: t, h => by
    rw [sorts, sorts, h x (by simp), ev_congr (fun e he => h e (List.mem_cons_of_mem _ he))]
theorem ev_more : ∀ {k : Nat} {e : Ex}, (sortX k e).2 = 0 → sortX (k + 1) e = sortX k e
  | 0, _, h => absurd h (by unfold sortX; decide)
  | k + 1, .mk op num tx args, h => by
    have h' := h
    rw [sortX] at h
    by_cases h0 : ownE op num tx args.length = 0
    · rw [if_pos h0] at h
      by_cases h1 : (sorts (sortX k) args).2 = 0
      · have hc : sorts (sortX (k + 1)) args = sorts (sortX k) args := ev_congr (fun e he => ev_more (ev_in h1 e he))
        rw [sortX_fin h0 (by rw [hc]; exact h1), sortX_fin h0 h1, hc]
      · rw [if_neg h1] at h; exact absurd h h1
    · rw [if_neg h0] at h; exact absurd h h0
/-- A valid expression is so with more levels left. -/
theorem ev_mono {k m : Nat} (hk : k ≤ m) {e : Ex} {s : Int} (h : sortX k e = (s, 0)) : sortX m e = (s, 0) := by
  induction hk with
  | refl => exact h
  | step _ ih => rw [ev_more (by rw [ih]), ih]
/-- What compare returns: an order, and whether there is one. -/
def ordE (v : En) (a b : Ex) : Int × Bool := if isTx a = true then (cmpB (txtV v a) (txtV v b), true) else (cmpI ((numV v a).getD 0) ((numV v b).getD 0), (numV v a).isSome && (numV v b).isSome)
theorem ordE_cmp {v : En} {op : Int} {a b : Ex} {k : Nat} {t : Int} (ha : sortX k a = (t, 0)) (hop : (op = 7 ∨ op = 8) ∨ (op = 9 ∨ op = 10) ∧ t = 1) {o : Int} {q : Bool} (h : ordE v a b = (o, q)) : (q && agr op o) = cmpE v op a b := by
  unfold ordE at h
  unfold cmpE
  by_cases ht : isTx a = true
  · rw [if_pos ht] at h ⊢
    obtain ⟨rfl, rfl⟩ := Prod.mk.inj h
    rw [Bool.true_and]
    have h78 : op = 7 ∨ op = 8 := by
      rcases hop with h | ⟨-, h⟩
      · exact h
      · rw [isTx_sort ha, h] at ht; cases ht
    have hz := cmpB_zero (txtV v a) (txtV v b)
    rcases h78 with rfl | rfl
    · show decide (cmpB _ _ = 0) = decide (cmpT _ _ = 0)
      simp only [hz]
    · show decide (cmpB _ _ ≠ 0) = decide (cmpT _ _ ≠ 0)
      simp only [ne_eq, hz]
  · rw [if_neg ht] at h ⊢
    obtain ⟨rfl, rfl⟩ := Prod.mk.inj h
    unfold cmpO
    cases numV v a with
    | none => rfl
    | some x => cases numV v b with
      | none => rfl
      | some y => rfl
/-- The state of what holds an expression and attributes: both lie in blocks of the call. -/
def HSt (w0 : World) (g : Nat) (v : En) (ec : Array Value) (w : World) : Prop :=
  Below w0.heap.size w0 w ∧ w0.heap.size ≤ g ∧ Blk w g 24 ec ∧ Blk w (g + 1) 26 #[.int .i64 v.a0, .int .i64 v.a1, .int .i64 v.a2, .int .i64 v.a3, .int .i64 v.a4, .int .i64 v.a5, .string v.zn, .string v.bn, .bool v.fm]
theorem HSt.drew {w0 W : World} {g : Nat} {v : En} {ec : Array Value} (h : HSt w0 g v ec W) : HSt w0 g v ec W.drew := ⟨⟨h.1.os, h.1.tape, h.1.output, h.1.size, h.1.block⟩, h.2.1, h.2.2.1, h.2.2.2⟩
theorem HSt.keep {w0 W W' : World} {g : Nat} {v : En} {ec : Array Value} (h : HSt w0 g v ec W) (hb : Below W.heap.size W W') : HSt w0 g v ec W' := ⟨h.1.trans (hb.mono h.1.size), h.2.1, h.2.2.1.below hb h.2.2.1.lt, h.2.2.2.below hb h.2.2.2.lt⟩
theorem HSt.new (w : World) (v : En) (ec : Array Value) : HSt w w.heap.size v ec ((w.alloc (.cells ec 24)).alloc (.cells #[.int .i64 v.a0, .int .i64 v.a1, .int .i64 v.a2, .int .i64 v.a3, .int .i64 v.a4, .int .i64 v.a5, .string v.zn, .string v.bn, .bool v.fm] 26)) := by
  refine ⟨(below_one w _).alloc (by simp) _, Nat.le_refl _, (Blk.new w _ _).alloc _, ?_⟩
  have h := Blk.new (w.alloc (.cells ec 24)) 26 #[.int .i64 v.a0, .int .i64 v.a1, .int .i64 v.a2, .int .i64 v.a3, .int .i64 v.a4, .int .i64 v.a5, .string v.zn, .string v.bn, .bool v.fm]
  rwa [show (w.alloc (.cells ec 24)).heap.size = w.heap.size + 1 by simp] at h
theorem HSt.cell {w0 W : World} {g : Nat} {v : En} {ec : Array Value} (h : HSt w0 g v ec W) {p : Addr} (hb : p.block < w0.heap.size) : W.cell? p = w0.cell? p := h.1.cell hb
theorem HSt.cells {w0 W : World} {g : Nat} {v : En} {x0 x1 x2 x3 : Value} (h : HSt w0 g v #[x0, x1, x2, x3] W) {b i0 i1 i2 i3 : Nat} {y0 y1 y2 y3 : Value} (he : w0.cell? ⟨b, i0, none⟩ = some y0 ∧ w0.cell? ⟨b, i1, none⟩ = some y1 ∧ w0.cell? ⟨b, i2, none⟩ = some y2 ∧ w0.cell? ⟨b, i3, none⟩ = some y3) (hb : b < w0.heap.size) :
    W.cell? ⟨g, 3, none⟩ = some x3 ∧ W.cell? ⟨b, i0, none⟩ = some y0 ∧ W.cell? ⟨b, i1, none⟩ = some y1 ∧ W.cell? ⟨b, i2, none⟩ = some y2 ∧ W.cell? ⟨b, i3, none⟩ = some y3 ∧ W.cell? ⟨g + 1, 0, none⟩ = some (.int .i64 v.a0) ∧ W.cell? ⟨g + 1, 1, none⟩ = some (.int .i64 v.a1) ∧ W.cell? ⟨g + 1, 2, none⟩ = some (.int .i64 v.a2) ∧ W.cell? ⟨g + 1, 3, none⟩ = some (.int .i64 v.a3) ∧ W.cell? ⟨g + 1, 4, none⟩ = some (.int .i64 v.a4) ∧ W.cell? ⟨g + 1, 5, none⟩ = some (.int .i64 v.a5) ∧ W.cell? ⟨g + 1, 6, none⟩ = some (.string v.zn) ∧ W.cell? ⟨g + 1, 7, none⟩ = some (.string v.bn) ∧ W.cell? ⟨g + 1, 8, none⟩ = some (.bool v.fm) := by
  obtain ⟨e0, e1, e2, e3⟩ := he
  have f := fun i => h.1.cell (p := ⟨b, i, none⟩) hb
  exact ⟨h.2.2.1.cell 3, (f _).trans e0, (f _).trans e1, (f _).trans e2, (f _).trans e3, nine h.2.2.2⟩
theorem HSt.cells2 {w0 W : World} {g : Nat} {v : En} {x0 x1 x2 x3 : Value} (h : HSt w0 g v #[x0, x1, x2, x3] W) {b i0 i1 i2 i3 i4 i5 i6 i7 : Nat} {y0 y1 y2 y3 y4 y5 y6 y7 : Value} (he : w0.cell? ⟨b, i0, none⟩ = some y0 ∧ w0.cell? ⟨b, i1, none⟩ = some y1 ∧ w0.cell? ⟨b, i2, none⟩ = some y2 ∧ w0.cell? ⟨b, i3, none⟩ = some y3) (hf : w0.cell? ⟨b, i4, none⟩ = some y4 ∧ w0.cell? ⟨b, i5, none⟩ = some y5 ∧ w0.cell? ⟨b, i6, none⟩ = some y6 ∧ w0.cell? ⟨b, i7, none⟩ = some y7) (hb : b < w0.heap.size) :
    W.cell? ⟨g, 3, none⟩ = some x3 ∧ W.cell? ⟨b, i0, none⟩ = some y0 ∧ W.cell? ⟨b, i1, none⟩ = some y1 ∧ W.cell? ⟨b, i2, none⟩ = some y2 ∧ W.cell? ⟨b, i3, none⟩ = some y3 ∧ W.cell? ⟨b, i4, none⟩ = some y4 ∧ W.cell? ⟨b, i5, none⟩ = some y5 ∧ W.cell? ⟨b, i6, none⟩ = some y6 ∧ W.cell? ⟨b, i7, none⟩ = some y7 ∧ W.cell? ⟨g + 1, 0, none⟩ = some (.int .i64 v.a0) ∧ W.cell? ⟨g + 1, 1, none⟩ = some (.int .i64 v.a1) ∧ W.cell? ⟨g + 1, 2, none⟩ = some (.int .i64 v.a2) ∧ W.cell? ⟨g + 1, 3, none⟩ = some (.int .i64 v.a3) ∧ W.cell? ⟨g + 1, 4, none⟩ = some (.int .i64 v.a4) ∧ W.cell? ⟨g + 1, 5, none⟩ = some (.int .i64 v.a5) ∧ W.cell? ⟨g + 1, 6, none⟩ = some (.string v.zn) ∧ W.cell? ⟨g + 1, 7, none⟩ = some (.string v.bn) ∧ W.cell? ⟨g + 1, 8, none⟩ = some (.bool v.fm) := by
  obtain ⟨e0, e1, e2, e3⟩ := he
  obtain ⟨e4, e5, e6, e7⟩ := hf
  have f := fun i => h.1.cell (p := ⟨b, i, none⟩) hb
  exact ⟨h.2.2.1.cell 3, (f _).trans e0, (f _).trans e1, (f _).trans e2, (f _).trans e3, (f _).trans e4, (f _).trans e5, (f _).trans e6, (f _).trans e7, nine h.2.2.2⟩
/-- What holds does for operands with so many levels left. -/
abbrev HolC (k : Nat) (v : En) : Prop := ∀ (o m : Int) (t : ByteArray) (us : List Ex) (A : Option Addr) (d n c : Nat) (W : World) (b : Bool), sortX k (.mk o m t us) = (3, 0) → XA W d A us → us.length = n → n ≤ c → c ≤ maxLen → t.size ≤ maxLen → hldV v (.mk o m t us) = b →
  Calls Try.prog 30 #[.agg #[.int .i64 o, .int .i64 m, .string t, .slice A n c], .agg #[.int .i64 v.a0, .int .i64 v.a1, .int .i64 v.a2, .int .i64 v.a3, .int .i64 v.a4, .int .i64 v.a5, .string v.zn, .string v.bn, .bool v.fm]] W fun e w' => e = .returned (.bool b) ∧ Below W.heap.size W w'
set_option maxRecDepth 100000 in
set_option maxHeartbeats 16000000 in
theorem opnd_is {k : Nat} {v : En} (H : HolC k v) {op num : Int} {tx : ByteArray} {args : List Ex} {i : Nat} {z : Int} (hiz : (i = 0 ∧ z = 0) ∨ (i = 1 ∧ z = 1)) {e : Ex} (he : args[i]? = some e) {b : Bool} (hs : sortX k e = (3, 0)) (hb : hldV v e = b) (A : Option Addr) (d n c : Nat) (w0 : World) (hA : XA w0 d A args) (hn : args.length = n) (hc : n ≤ c) (hm : c ≤ maxLen)
    (g : Nat) (W : World) (hS : HSt w0 g v #[.int .i64 op, .int .i64 num, .string tx, .slice A n c] W) :
    Calls Try.prog 42 #[.int .i64 z, .pointer (some ⟨g, 0, none⟩), .pointer (some ⟨g + 1, 0, none⟩)] W fun e w' => e = .returned (.bool b) ∧ HSt w0 g v #[.int .i64 op, .int .i64 num, .string tx, .slice A n c] w' := by
  have hi : i < args.length := (List.getElem?_eq_some_iff.1 he).1
  obtain ⟨b0, off, o1, n1, t1, us1, A1, c1, rfl, hbl, hei, e0, e1, e2, e3, u1, u2, u3, X1⟩ := hA.at hi
  rw [he] at hei
  obtain rfl := Option.some.inj hei
  obtain ⟨m1, hm1⟩ : ∃ x, us1.length = x := ⟨_, rfl⟩
  rw [hm1] at e3 u1
  have hin : i < n := by rw [← hn]; exact hi
  have HE := Lib.hid (show w0.cell? ⟨b0, off + i * 4, none⟩ = some (.int .i64 o1) ∧ w0.cell? ⟨b0, off + i * 4 + 1, none⟩ = some (.int .i64 n1) ∧ w0.cell? ⟨b0, off + i * 4 + 2, none⟩ = some (.string t1) ∧ w0.cell? ⟨b0, off + i * 4 + 3, none⟩ = some (.slice A1 m1 c1) from ⟨e0, e1, e2, e3⟩)
  have HCA := Lib.hid (fun W' (h : HSt w0 g v #[.int .i64 op, .int .i64 num, .string tx, .slice (some ⟨b0, off, none⟩) n c] W') => H o1 n1 t1 us1 A1 (d - 1) m1 c1 W' b hs (X1.below h.1) hm1 u1 u2 u3 hb)
  have HL := Lib.hid hbl
  have HSD := Lib.hid hS.drew
  have hbw : b0 < W.heap.size := Nat.lt_of_lt_of_le hbl hS.1.size
  obtain ⟨k0, k1, k2, k3⟩ := four hS.2.2.1
  obtain ⟨d0, d1, d2, d3, d4, d5, d6, d7, d8⟩ := nine hS.2.2.2
  have l0 := (hS.cell (p := ⟨b0, off + i * 4, none⟩) hbl).trans e0
  have l1 := (hS.cell (p := ⟨b0, off + i * 4 + 1, none⟩) hbl).trans e1
  have l2 := (hS.cell (p := ⟨b0, off + i * 4 + 2, none⟩) hbl).trans e2
  have l3 := (hS.cell (p := ⟨b0, off + i * 4 + 3, none⟩) hbl).trans e3
  have hcn := hc
  have hcm := hm
  unfold maxLen at hcm
  clear hS H hA he hn hc hm e0 e1 e2 e3 X1 hs hb hi hei k0 k1 k2
  rcases hiz with ⟨rfl, rfl⟩ | ⟨rfl, rfl⟩
  · simp only [Nat.zero_mul, Nat.add_zero] at l0 l1 l2 l3 HE
    go_enter Try.func42, Try.ntmps42
    go_wp2_with fail
    go_region_held3 (fun w' => w'.cell? ⟨g, 3, none⟩ = some (.slice (some ⟨b0, off, none⟩) n c) ∧ w'.cell? ⟨b0, off, none⟩ = some (.int .i64 o1) ∧ w'.cell? ⟨b0, off + 1, none⟩ = some (.int .i64 n1) ∧ w'.cell? ⟨b0, off + 2, none⟩ = some (.string t1) ∧ w'.cell? ⟨b0, off + 3, none⟩ = some (.slice A1 m1 c1) ∧ w'.cell? ⟨g + 1, 0, none⟩ = some (.int .i64 v.a0) ∧ w'.cell? ⟨g + 1, 1, none⟩ = some (.int .i64 v.a1) ∧ w'.cell? ⟨g + 1, 2, none⟩ = some (.int .i64 v.a2) ∧ w'.cell? ⟨g + 1, 3, none⟩ = some (.int .i64 v.a3) ∧ w'.cell? ⟨g + 1, 4, none⟩ = some (.int .i64 v.a4) ∧ w'.cell? ⟨g + 1, 5, none⟩ = some (.int .i64 v.a5) ∧ w'.cell? ⟨g + 1, 6, none⟩ = some (.string v.zn) ∧ w'.cell? ⟨g + 1, 7, none⟩ = some (.string v.bn) ∧ w'.cell? ⟨g + 1, 8, none⟩ = some (.bool v.fm))
      (first | exact HS1.out.cells HE.out HL.out | go_keep)
      (first
        | (go_at_call 30; (with_reducible refine (HCA.out _ HSD.out).mono ?_); rintro e w1 ⟨rfl, h1⟩; have HS1 := Lib.hid (HSD.out.keep h1); clear h1))
    go_wp2_with fail
    go_ret
    exact ⟨rfl, HS1.out⟩
  · simp only [Nat.one_mul] at l0 l1 l2 l3 HE
    have hin1 : (1 : Int) < (n : Int) := by omega
    have hin2 : decide ((1 : Int) < (n : Int)) = true := decide_eq_true hin1
    go_enter Try.func42, Try.ntmps42
    go_wp2_with fail
    go_region_held3 (fun w' => w'.cell? ⟨g, 3, none⟩ = some (.slice (some ⟨b0, off, none⟩) n c) ∧ w'.cell? ⟨b0, off + 4, none⟩ = some (.int .i64 o1) ∧ w'.cell? ⟨b0, off + 4 + 1, none⟩ = some (.int .i64 n1) ∧ w'.cell? ⟨b0, off + 4 + 2, none⟩ = some (.string t1) ∧ w'.cell? ⟨b0, off + 4 + 3, none⟩ = some (.slice A1 m1 c1) ∧ w'.cell? ⟨g + 1, 0, none⟩ = some (.int .i64 v.a0) ∧ w'.cell? ⟨g + 1, 1, none⟩ = some (.int .i64 v.a1) ∧ w'.cell? ⟨g + 1, 2, none⟩ = some (.int .i64 v.a2) ∧ w'.cell? ⟨g + 1, 3, none⟩ = some (.int .i64 v.a3) ∧ w'.cell? ⟨g + 1, 4, none⟩ = some (.int .i64 v.a4) ∧ w'.cell? ⟨g + 1, 5, none⟩ = some (.int .i64 v.a5) ∧ w'.cell? ⟨g + 1, 6, none⟩ = some (.string v.zn) ∧ w'.cell? ⟨g + 1, 7, none⟩ = some (.string v.bn) ∧ w'.cell? ⟨g + 1, 8, none⟩ = some (.bool v.fm))
      (first | exact HS1.out.cells HE.out HL.out | go_keep)
      (first
        | (go_at_call 30; (with_reducible refine (HCA.out _ HSD.out).mono ?_); rintro e w1 ⟨rfl, h1⟩; have HS1 := Lib.hid (HSD.out.keep h1); clear h1))
    go_wp2_with fail
    go_ret
    exact ⟨rfl, HS1.out⟩
set_option maxRecDepth 100000 in
set_option maxHeartbeats 16000000 in
theorem compare_is {k : Nat} (hk : k ≤ 16) {v : En} {op num : Int} {tx : ByteArray} {a b : Ex} {t : Int} (ha : sortX k a = (t, 0)) (hb : sortX k b = (t, 0)) (ht : t = 1 ∨ t = 2) {o : Int} {q : Bool} (ho : ordE v a b = (o, q)) (A : Option Addr) (d c : Nat) (w : World) (hA : XA w d A [a, b]) (hc : 2 ≤ c) (hm : c ≤ maxLen) :
    Calls Try.prog 43 #[.agg #[.int .i64 op, .int .i64 num, .string tx, .slice A 2 c], .agg #[.int .i64 v.a0, .int .i64 v.a1, .int .i64 v.a2, .int .i64 v.a3, .int .i64 v.a4, .int .i64 v.a5, .string v.zn, .string v.bn, .bool v.fm]] w fun e w' => e = .returned (.tuple #[.int .i64 o, .bool q]) ∧ Below w.heap.size w w' := by
  obtain ⟨b0, off, o1, n1, t1, us1, A1, c1, eA, hbl, hi1, e0, e1, e2, e3, u1, u2, u3, X1⟩ := hA.at (i := 0) (by simp)
  obtain ⟨b0', off', o2, n2, t2, us2, A2, c2, eA', -, hi2, f0, f1, f2, f3, v1, v2, v3, X2⟩ := hA.at (i := 1) (by simp)
  rw [eA] at eA'
  obtain ⟨rfl, rfl⟩ : b0 = b0' ∧ off = off' := by cases eA'; exact ⟨rfl, rfl⟩
  obtain rfl : a = .mk o1 n1 t1 us1 := by simpa using hi1
  obtain rfl : b = .mk o2 n2 t2 us2 := by simpa using hi2
  subst eA
  simp only [Nat.zero_mul, Nat.one_mul, Nat.add_zero] at e0 e1 e2 e3 f0 f1 f2 f3
  obtain ⟨m1, hm1⟩ : ∃ x, us1.length = x := ⟨_, rfl⟩
  obtain ⟨m2, hm2⟩ : ∃ x, us2.length = x := ⟨_, rfl⟩
  rw [hm1] at e3 u1
  rw [hm2] at f3 v1
  have hst := HSt.new w v #[.int .i64 op, .int .i64 num, .string tx, .slice (some ⟨b0, off, none⟩) 2 c]
  have HB := Lib.hid hst.1
  obtain ⟨k0, k1, k2, k3⟩ := four hst.2.2.1
  obtain ⟨d0, d1, d2, d3, d4, d5, d6, d7, d8⟩ := nine hst.2.2.2
  have HS := Lib.hid hst
  obtain ⟨tb, htb⟩ : ∃ x, (t == 2) = x := ⟨_, rfl⟩
  have HIS := Lib.hid (fun W (h : HSt w w.heap.size v #[.int .i64 op, .int .i64 num, .string tx, .slice (some ⟨b0, off, none⟩) 2 c] W) => is_is (ev_mono hk ha) 2 tb (by rw [← htb]; rfl) A1 (d - 1) m1 c1 W (X1.below h.1) hm1 u1 u2 u3)
  have HE := Lib.hid (show w.cell? ⟨b0, off, none⟩ = some (.int .i64 o1) ∧ w.cell? ⟨b0, off + 1, none⟩ = some (.int .i64 n1) ∧ w.cell? ⟨b0, off + 2, none⟩ = some (.string t1) ∧ w.cell? ⟨b0, off + 3, none⟩ = some (.slice A1 m1 c1) from ⟨e0, e1, e2, e3⟩)
  have HF := Lib.hid (show w.cell? ⟨b0, off + 4, none⟩ = some (.int .i64 o2) ∧ w.cell? ⟨b0, off + 4 + 1, none⟩ = some (.int .i64 n2) ∧ w.cell? ⟨b0, off + 4 + 2, none⟩ = some (.string t2) ∧ w.cell? ⟨b0, off + 4 + 3, none⟩ = some (.slice A2 m2 c2) from ⟨f0, f1, f2, f3⟩)
  have HL := Lib.hid hbl
  obtain ⟨-, l0, l1, l2, l3, -⟩ := hst.cells HE.out hbl
  have hcm := hm
  unfold maxLen at hcm
  clear hst e0 e1 e2 e3 f0 f1 f2 f3
  rcases ht with rfl | rfl
  · obtain rfl : tb = false := htb.symm.trans rfl
    obtain ⟨x, p, hva⟩ := OV.ex (numV v (.mk o1 n1 t1 us1))
    obtain ⟨y, r, hvb⟩ := OV.ex (numV v (.mk o2 n2 t2 us2))
    have HBO := Lib.hid (fun W (h : HSt w w.heap.size v #[.int .i64 op, .int .i64 num, .string tx, .slice (some ⟨b0, off, none⟩) 2 c] W) => both_is (number_any v k) (op := op) (num := num) (tx := tx) ha hb hva hvb (some ⟨b0, off, none⟩) d c W (hA.below h.1) hc hm)
    have hxy : cmpI x y = o ∧ (p && r) = q := by
      have hf : isTx (.mk o1 n1 t1 us1) = false := by rw [isTx_sort ha]; rfl
      unfold ordE at ho
      rw [if_neg (by rw [hf]; decide), ← hva.1, ← hvb.1, ← hva.2, ← hvb.2] at ho
      exact Prod.mk.inj ho
    obtain ⟨ho1, rfl⟩ := hxy
    have HCO := Lib.hid (fun W => cmpI_is ho1 W)
    clear ha hb htb ho hA X1 X2 hm1 hm2 u1 u2 u3 v1 v2 v3 hva hvb ho1 hbl hi1 hi2
    go_enter Try.func43, Try.ntmps43
    go_wp2_with (first
      | (go_at_call 24; (with_reducible refine (HIS.out _ HS.out).mono ?_); rintro e w1 ⟨rfl, hb1⟩; have HS1 := Lib.hid (HS.out.keep hb1); clear hb1 k0 k1 k2 k3 d0 d1 d2 d3 d4 d5 d6 d7 d8 l0 l1 l2 l3; obtain ⟨k0, k1, k2, k3⟩ := four HS1.out.2.2.1; obtain ⟨d0, d1, d2, d3, d4, d5, d6, d7, d8⟩ := nine HS1.out.2.2.2)
      | (go_at_call 35; (with_reducible refine (HBO.out _ HS1.out).mono ?_); rintro e w2 ⟨rfl, hb2⟩; have HB2 := Lib.hid (HS1.out.1.trans (hb2.mono HS1.out.1.size)); clear hb2 k0 k1 k2 k3 d0 d1 d2 d3 d4 d5 d6 d7 d8)
      | (go_at_call 56; (with_reducible refine (HCO.out _).mono ?_); rintro e w3 ⟨rfl, rfl⟩))
    go_ret2
    exact ⟨rfl, HB2.out⟩
  · obtain rfl : tb = true := htb.symm.trans rfl
    obtain ⟨s1, hs1⟩ : ∃ s, txtV v (.mk o1 n1 t1 us1) = s := ⟨_, rfl⟩
    obtain ⟨s2, hs2⟩ : ∃ s, txtV v (.mk o2 n2 t2 us2) = s := ⟨_, rfl⟩
    have HT1 := Lib.hid (fun W => text_is hs1 A1 m1 c1 W)
    have HT2 := Lib.hid (fun W => text_is hs2 A2 m2 c2 W)
    have hxy : cmpB s1 s2 = o ∧ true = q := by
      have hf : isTx (.mk o1 n1 t1 us1) = true := by rw [isTx_sort ha]; rfl
      unfold ordE at ho
      rw [if_pos hf, hs1, hs2] at ho
      exact Prod.mk.inj ho
    obtain ⟨ho1, rfl⟩ := hxy
    have HCO := Lib.hid (fun W => cmpB_is ho1 W)
    obtain ⟨g, hg⟩ : ∃ g, w.heap.size = g := ⟨_, rfl⟩
    clear ha hb htb ho hA X1 X2 hm1 hm2 u1 u2 u3 v1 v2 v3 hs1 hs2 ho1 hbl hi1 hi2
    go_enter Try.func43, Try.ntmps43
    go_upto_region 2 with (go_at_call 24; (with_reducible refine (HIS.out _ HS.out).mono ?_); rintro e w1 ⟨rfl, hb1⟩; have HS1 := Lib.hid (HS.out.keep hb1); clear hb1 k0 k1 k2 k3 d0 d1 d2 d3 d4 d5 d6 d7 d8 l0 l1 l2 l3)
    rw [hg] at HS1
    have HSD := Lib.hid HS1.out.drew
    obtain ⟨k0, k1, k2, k3, k4, k5, k6, k7, k8, k9⟩ := HS1.out.cells2 HE.out HF.out HL.out
    go_region_held3 (fun w' => w'.cell? ⟨g, 3, none⟩ = some (.slice (some ⟨b0, off, none⟩) 2 c) ∧ w'.cell? ⟨b0, off, none⟩ = some (.int .i64 o1) ∧ w'.cell? ⟨b0, off + 1, none⟩ = some (.int .i64 n1) ∧ w'.cell? ⟨b0, off + 2, none⟩ = some (.string t1) ∧ w'.cell? ⟨b0, off + 3, none⟩ = some (.slice A1 m1 c1) ∧ w'.cell? ⟨b0, off + 4, none⟩ = some (.int .i64 o2) ∧ w'.cell? ⟨b0, off + 4 + 1, none⟩ = some (.int .i64 n2) ∧ w'.cell? ⟨b0, off + 4 + 2, none⟩ = some (.string t2) ∧ w'.cell? ⟨b0, off + 4 + 3, none⟩ = some (.slice A2 m2 c2) ∧ w'.cell? ⟨g + 1, 0, none⟩ = some (.int .i64 v.a0) ∧ w'.cell? ⟨g + 1, 1, none⟩ = some (.int .i64 v.a1) ∧ w'.cell? ⟨g + 1, 2, none⟩ = some (.int .i64 v.a2) ∧ w'.cell? ⟨g + 1, 3, none⟩ = some (.int .i64 v.a3) ∧ w'.cell? ⟨g + 1, 4, none⟩ = some (.int .i64 v.a4) ∧ w'.cell? ⟨g + 1, 5, none⟩ = some (.int .i64 v.a5) ∧ w'.cell? ⟨g + 1, 6, none⟩ = some (.string v.zn) ∧ w'.cell? ⟨g + 1, 7, none⟩ = some (.string v.bn) ∧ w'.cell? ⟨g + 1, 8, none⟩ = some (.bool v.fm))
      (first | exact HS1.out.cells2 HE.out HF.out HL.out | exact HSD.out.cells2 HE.out HF.out HL.out | go_keep)
      (first
        | (go_at_call 28; (with_reducible refine (HT1.out _).mono ?_); rintro e w2 ⟨rfl, hb2⟩; have HS2 := Lib.hid (HSD.out.keep hb2); clear hb2 HS1; have HS1 := HS2)
        | (go_at_call 28; (with_reducible refine (HT2.out _).mono ?_); rintro e w3 ⟨rfl, hb3⟩; have HS3 := Lib.hid (HS1.out.keep hb3); clear hb3 HS1; have HS1 := HS3)
        | (go_at_call 55; (with_reducible refine (HCO.out _).mono ?_); rintro e w4 ⟨rfl, rfl⟩))
    go_wp2_with fail
    go_ret2
    exact ⟨rfl, HS1.out.1⟩
end Go.Proofs.Ytklpaonhmmfioaa.Ck
