/- Walks: the laws' helpers num, name, two, not. -/
import Derived.Test.YtklpaonhmmfioaaEvX
namespace Go.Proofs.Ytklpaonhmmfioaa.Ck
open Go Go.Lib Go.RowKit Go.Proofs.Ytklpaonhmmfioaa Go.Maps

theorem results_cell1 {P : Program} {fn : Func} {p : Tmp} {ty : TypeId} (h : fn.results = #[.cell p ty]) (tmps : Array Value) (w : World) (g : Nat) (t : TypeId) (cs : Array Value) (fr : Nat × Nat) (d : TypeDesc)
    (hp : tmps.getD p undef = .pointer (some ⟨g, 0, none⟩)) (hg : w.heap[g]? = some (.cells cs t fr))
    (hu : P.underlying ty = some d) (hd : (match d with | .struct _ | .array _ _ => true | _ => false) = true) (hi : (P.info? ty).map (·.size) = some cs.size) :
    (results fn tmps).run P w = .ok (.agg cs) w := by
  have hp' : tmps[p]?.getD undef = .pointer (some ⟨g, 0, none⟩) := by simpa using hp
  simp [results, h, hp', asAddr, run_loadVar_row w g t ty cs fr d hg hu hd hi]
/-- What an operand needs to lie in memory. -/
def Op1 (w : World) (d : Nat) (t : ByteArray) (A : Option Addr) (m c : Nat) (us : List Ex) : Prop := XA w d A us ∧ us.length = m ∧ m ≤ c ∧ c ≤ maxLen ∧ t.size ≤ maxLen
theorem Op1.leaf (w : World) (d : Nat) (t : ByteArray) (h : t.size ≤ maxLen) : Op1 w d t none 0 0 [] := ⟨XA.nil _ _ _, rfl, Nat.le_refl _, Nat.zero_le _, h⟩
theorem Op1.keep {w w' : World} {d : Nat} {t : ByteArray} {A : Option Addr} {m c : Nat} {us : List Ex} (h : Op1 w d t A m c us) (hb : Below w.heap.size w w') : Op1 w' d t A m c us := ⟨h.1.below hb, h.2⟩
theorem Op1.mono {w : World} {d d' : Nat} {t : ByteArray} {A : Option Addr} {m c : Nat} {us : List Ex} (h : Op1 w d t A m c us) (hd : d ≤ d') : Op1 w d' t A m c us := ⟨h.1.mono hd, h.2⟩
theorem XA.cons2 {w : World} {d : Nat} {o1 n1 o2 n2 : Int} {t1 t2 : ByteArray} {A1 A2 : Option Addr} {m1 c1 m2 c2 : Nat} {us1 us2 : List Ex} (h1 : Op1 w d t1 A1 m1 c1 us1) (h2 : Op1 w d t2 A2 m2 c2 us2) :
    XA (w.alloc (.cells #[.int .i64 o1, .int .i64 n1, .string t1, .slice A1 m1 c1, .int .i64 o2, .int .i64 n2, .string t2, .slice A2 m2 c2] 24)) (d + 1) (some ⟨w.heap.size, 0, none⟩) [.mk o1 n1 t1 us1, .mk o2 n2 t2 us2] := fun i hi => by
  obtain ⟨x1, rfl, l1, k1, s1⟩ := h1
  obtain ⟨x2, rfl, l2, k2, s2⟩ := h2
  match i, hi with
  | 0, _ => exact ⟨w.heap.size, 0, o1, n1, t1, us1, A1, c1, rfl, by simp, rfl, cell_lit _ _ _ _, cell_lit _ _ _ _, cell_lit _ _ _ _, cell_lit _ _ _ _, l1, k1, s1, x1.below (below_one w _)⟩
  | 1, _ => exact ⟨w.heap.size, 0, o2, n2, t2, us2, A2, c2, rfl, by simp, rfl, cell_lit _ _ _ _, cell_lit _ _ _ _, cell_lit _ _ _ _, cell_lit _ _ _ _, l2, k2, s2, x2.below (below_one w _)⟩
theorem XA.cons1 {w : World} {d : Nat} {o1 n1 : Int} {t1 : ByteArray} {A1 : Option Addr} {m1 c1 : Nat} {us1 : List Ex} (h1 : Op1 w d t1 A1 m1 c1 us1) :
    XA (w.alloc (.cells #[.int .i64 o1, .int .i64 n1, .string t1, .slice A1 m1 c1] 24)) (d + 1) (some ⟨w.heap.size, 0, none⟩) [.mk o1 n1 t1 us1] := fun i hi => by
  obtain ⟨x1, rfl, l1, k1, s1⟩ := h1
  match i, hi with
  | 0, _ => exact ⟨w.heap.size, 0, o1, n1, t1, us1, A1, c1, rfl, by simp, rfl, cell_lit _ _ _ _, cell_lit _ _ _ _, cell_lit _ _ _ _, cell_lit _ _ _ _, l1, k1, s1, x1.below (below_one w _)⟩
set_option maxRecDepth 100000 in
set_option maxHeartbeats 8000000 in
theorem num_is (n : Int) (w : World) : Calls Try.prog 23 #[.int .i64 n] w fun e w' => e = .returned (.agg #[.int .i64 1, .int .i64 n, .string ⟨#[]⟩, .slice none 0 0]) ∧ Below w.heap.size w w' := by
  go_enter Try.func23, Try.ntmps23
  go_wp2_with fail
  exact bodyPost_ret (results_cell1 (p := 2) rfl _ _ w.heap.size 24 #[.int .i64 1, .int .i64 n, .string ⟨#[]⟩, .slice none 0 0] (0, 0) _ rfl (Blk.new w _ _) Try.underlying24 rfl rfl) rfl ⟨rfl, below_one w _⟩
set_option maxRecDepth 100000 in
set_option maxHeartbeats 8000000 in
theorem name_is (s : ByteArray) (w : World) : Calls Try.prog 18 #[.string s] w fun e w' => e = .returned (.agg #[.int .i64 3, .int .i64 0, .string s, .slice none 0 0]) ∧ Below w.heap.size w w' := by
  go_enter Try.func18, Try.ntmps18
  go_wp2_with fail
  exact bodyPost_ret (results_cell1 (p := 2) rfl _ _ w.heap.size 24 #[.int .i64 3, .int .i64 0, .string s, .slice none 0 0] (0, 0) _ rfl (Blk.new w _ _) Try.underlying24 rfl rfl) rfl ⟨rfl, below_one w _⟩
set_option maxRecDepth 100000 in
set_option maxHeartbeats 8000000 in
theorem two_is (op o1 n1 o2 n2 : Int) (t1 t2 : ByteArray) (A1 A2 : Option Addr) (m1 c1 m2 c2 : Nat) (w : World) {d : Nat} {us1 us2 : List Ex} (h1 : Op1 w d t1 A1 m1 c1 us1) (h2 : Op1 w d t2 A2 m2 c2 us2) : Calls Try.prog 19 #[.int .i64 op, .agg #[.int .i64 o1, .int .i64 n1, .string t1, .slice A1 m1 c1], .agg #[.int .i64 o2, .int .i64 n2, .string t2, .slice A2 m2 c2]] w fun e w' =>
    ∃ g, e = .returned (.agg #[.int .i64 op, .int .i64 0, .string ⟨#[]⟩, .slice (some ⟨g, 0, none⟩) 2 2]) ∧ XA w' (d + 1) (some ⟨g, 0, none⟩) [.mk o1 n1 t1 us1, .mk o2 n2 t2 us2] ∧ Below w.heap.size w w' := by
  have H1 := Lib.hid h1; have H2 := Lib.hid h2
  clear h1 h2
  go_enter Try.func19, Try.ntmps19
  go_wp2_with fail
  have hb1 := below_one w (.cells #[.int .i64 o1, .int .i64 n1, .string t1, .slice A1 m1 c1] 24)
  have hb2 := hb1.alloc (by simp) (.cells #[.int .i64 o2, .int .i64 n2, .string t2, .slice A2 m2 c2] 24)
  have hb3 := hb2.alloc (by simp; omega) (.cells #[.int .i64 op, .int .i64 0, .string ⟨#[]⟩, .slice (some ⟨w.heap.size + 1 + 1 + 1, 0, none⟩) 2 2] 24)
  have hb4 := hb3.alloc (by simp; omega) (.cells #[.int .i64 o1, .int .i64 n1, .string t1, .slice A1 m1 c1, .int .i64 o2, .int .i64 n2, .string t2, .slice A2 m2 c2] 24)
  have hk := (Blk.new ((w.alloc (.cells #[.int .i64 o1, .int .i64 n1, .string t1, .slice A1 m1 c1] 24)).alloc (.cells #[.int .i64 o2, .int .i64 n2, .string t2, .slice A2 m2 c2] 24)) 24 #[.int .i64 op, .int .i64 0, .string ⟨#[]⟩, .slice (some ⟨w.heap.size + 1 + 1 + 1, 0, none⟩) 2 2]).alloc (.cells #[.int .i64 o1, .int .i64 n1, .string t1, .slice A1 m1 c1, .int .i64 o2, .int .i64 n2, .string t2, .slice A2 m2 c2] 24)
  rw [show ((w.alloc (.cells #[.int .i64 o1, .int .i64 n1, .string t1, .slice A1 m1 c1] 24)).alloc (.cells #[.int .i64 o2, .int .i64 n2, .string t2, .slice A2 m2 c2] 24)).heap.size = w.heap.size + 1 + 1 by simp] at hk
  have hx := XA.cons2 (o1 := o1) (n1 := n1) (o2 := o2) (n2 := n2) (H1.out.keep hb3) (H2.out.keep hb3)
  rw [show (((w.alloc (.cells #[.int .i64 o1, .int .i64 n1, .string t1, .slice A1 m1 c1] 24)).alloc (.cells #[.int .i64 o2, .int .i64 n2, .string t2, .slice A2 m2 c2] 24)).alloc (.cells #[.int .i64 op, .int .i64 0, .string ⟨#[]⟩, .slice (some ⟨w.heap.size + 1 + 1 + 1, 0, none⟩) 2 2] 24)).heap.size = w.heap.size + 1 + 1 + 1 by simp] at hx
  exact bodyPost_ret (results_cell1 (p := 6) rfl _ _ (w.heap.size + 1 + 1) 24 #[.int .i64 op, .int .i64 0, .string ⟨#[]⟩, .slice (some ⟨w.heap.size + 1 + 1 + 1, 0, none⟩) 2 2] (0, 0) _ rfl hk Try.underlying24 rfl rfl) rfl ⟨_, rfl, hx, hb4⟩
set_option maxRecDepth 100000 in
set_option maxHeartbeats 8000000 in
theorem not_is (o1 n1 : Int) (t1 : ByteArray) (A1 : Option Addr) (m1 c1 : Nat) (w : World) {d : Nat} {us1 : List Ex} (h1 : Op1 w d t1 A1 m1 c1 us1) : Calls Try.prog 21 #[.agg #[.int .i64 o1, .int .i64 n1, .string t1, .slice A1 m1 c1]] w fun e w' =>
    ∃ g, e = .returned (.agg #[.int .i64 4, .int .i64 0, .string ⟨#[]⟩, .slice (some ⟨g, 0, none⟩) 1 1]) ∧ XA w' (d + 1) (some ⟨g, 0, none⟩) [.mk o1 n1 t1 us1] ∧ Below w.heap.size w w' := by
  have H1 := Lib.hid h1
  clear h1
  go_enter Try.func21, Try.ntmps21
  go_wp2_with fail
  have hb1 := below_one w (.cells #[.int .i64 o1, .int .i64 n1, .string t1, .slice A1 m1 c1] 24)
  have hb3 := hb1.alloc (by simp) (.cells #[.int .i64 4, .int .i64 0, .string ⟨#[]⟩, .slice (some ⟨w.heap.size + 1 + 1, 0, none⟩) 1 1] 24)
  have hb4 := hb3.alloc (by simp; omega) (.cells #[.int .i64 o1, .int .i64 n1, .string t1, .slice A1 m1 c1] 24)
  have hk := (Blk.new (w.alloc (.cells #[.int .i64 o1, .int .i64 n1, .string t1, .slice A1 m1 c1] 24)) 24 #[.int .i64 4, .int .i64 0, .string ⟨#[]⟩, .slice (some ⟨w.heap.size + 1 + 1, 0, none⟩) 1 1]).alloc (.cells #[.int .i64 o1, .int .i64 n1, .string t1, .slice A1 m1 c1] 24)
  rw [show (w.alloc (.cells #[.int .i64 o1, .int .i64 n1, .string t1, .slice A1 m1 c1] 24)).heap.size = w.heap.size + 1 by simp] at hk
  have hx := XA.cons1 (o1 := o1) (n1 := n1) (H1.out.keep hb3)
  rw [show ((w.alloc (.cells #[.int .i64 o1, .int .i64 n1, .string t1, .slice A1 m1 c1] 24)).alloc (.cells #[.int .i64 4, .int .i64 0, .string ⟨#[]⟩, .slice (some ⟨w.heap.size + 1 + 1, 0, none⟩) 1 1] 24)).heap.size = w.heap.size + 1 + 1 by simp] at hx
  exact bodyPost_ret (results_cell1 (p := 2) rfl _ _ (w.heap.size + 1) 24 #[.int .i64 4, .int .i64 0, .string ⟨#[]⟩, .slice (some ⟨w.heap.size + 1 + 1, 0, none⟩) 1 1] (0, 0) _ rfl hk Try.underlying24 rfl rfl) rfl ⟨_, rfl, hx, hb4⟩
def env0 : En := ⟨0, 0, 0, 0, 0, 0, ⟨#[]⟩, ⟨#[]⟩, false⟩
def env1 : En := ⟨0, 60, 0, 0, 0, 0, ⟨#[104, 111, 109, 101]⟩, ⟨#[]⟩, false⟩
def eN (n : Int) : Ex := .mk 1 n ⟨#[]⟩ []
def eA (s : ByteArray) : Ex := .mk 3 0 s []
def e2 (op : Int) (a b : Ex) : Ex := .mk op 0 ⟨#[]⟩ [a, b]
def e1 (a : Ex) : Ex := .mk 4 0 ⟨#[]⟩ [a]
theorem val1 : numR env0 (e2 12 (eN 0) (e2 14 (eN 7) (eN 2))) = some (-3) := by decide +kernel
theorem val2 : numR env0 (e2 15 (e2 12 (eN 0) (eN 7)) (eN 2)) = some (-1) := by decide +kernel
theorem val3 : txtR env1 (eA ⟨#[122, 111, 110, 101]⟩) = (⟨#[104, 111, 109, 101]⟩, true) := by decide +kernel
theorem val4 : hldR env1 (e2 9 (eN 1) (e2 14 (eA ⟨#[117, 110, 105, 116, 115]⟩) (eA ⟨#[116, 111, 116, 97, 108]⟩))) = false := by decide +kernel
theorem val5 : hldR env1 (e1 (e2 9 (eN 1) (e2 14 (eA ⟨#[117, 110, 105, 116, 115]⟩) (eA ⟨#[116, 111, 116, 97, 108]⟩)))) = true := by decide +kernel
theorem val6 : hldR env1 (e2 5 (e2 7 (eA ⟨#[122, 111, 110, 101]⟩) (.mk 2 0 ⟨#[104, 111, 109, 101]⟩ [])) (e2 10 (eA ⟨#[117, 110, 105, 116, 115]⟩) (eN 60))) = true := by decide +kernel
end Go.Proofs.Ytklpaonhmmfioaa.Ck
