/- Walk: product.At. -/
import Derived.Test.YthjckkcafhiomaaPdCz
import Derived.Test.YthjckkcafhiomaaPdFA
namespace Go.Proofs.Ythjckkcafhiomaa.Pd
open Go.RowKit

theorem results_cell2 {P : Program} {fn : Func} {p u : Tmp} {ty : TypeId} (h : fn.results = #[.cell p ty, .tmp u]) (tmps : Array Value) (w : World) (g : Nat) (tt : TypeId) (cs : Array Value) (fr : Nat × Nat) (d : TypeDesc)
    (hp : tmps.getD p undef = .pointer (some ⟨g, 0, none⟩)) (hg : w.heap[g]? = some (.cells cs tt fr))
    (hu : P.underlying ty = some d) (hd : (match d with | .struct _ | .array _ _ => true | _ => false) = true) (hi : (P.info? ty).map (·.size) = some cs.size) :
    (results fn tmps).run P w = .ok (.tuple #[.agg cs, tmps.getD u undef]) w := by
  have hp' : tmps[p]?.getD undef = .pointer (some ⟨g, 0, none⟩) := by simpa using hp
  simp [results, h, hp', asAddr, run_loadVar_row w g tt ty cs fr d hg hu hd hi]
/-- What At gives. -/
def AtOut (o : Option Pr) (w : World) (e : Ending) (w' : World) : Prop :=
  match o with
  | none => e = .returned (.tuple #[.agg pr0.cells, .bool false]) ∧ Below w.heap.size w w'
  | some p => ∃ p', e = .returned (.tuple #[.agg p'.cells, .bool true]) ∧ PrOk w' p' ∧ DeepP p p' ∧ Below w.heap.size w w'
def verA (l : List Pr) (nm : ByteArray) (t : Int) : Option Pr := (l.filter (qA nm t)).getLast?
set_option maxRecDepth 100000 in
set_option maxHeartbeats 8000000 in
theorem at_any (A : Option Addr) (n c : Nat) (l : List Pr) (nm : ByteArray) (t : Int) (w : World) (hA : PrR w A l) (hn : l.length = n) (h6 : n ≤ 1000000) (hs : ∀ p ∈ l, p.n ≤ 1000000) :
    Calls Try.prog 13 #[.slice A n c, .string nm, .int .i64 t] w (AtOut (verA l nm t) w) := by
  obtain ⟨b0, hb0⟩ : ∃ b, w.heap.size = b := ⟨_, rfl⟩
  obtain ⟨L, hL⟩ : ∃ L, ((w.alloc (.cells #[.string nm] 9)).alloc (.cells #[.int .i64 t] 3)).alloc (.cells #[.string ⟨#[]⟩, .int .i64 0, .int .i64 0, .string ⟨#[]⟩, .bool false, .slice none 0 0] 29) = L := ⟨_, rfl⟩
  have hBL : Below w.heap.size w L := hL ▸ ((below_one w _).alloc (by simp) _).alloc (by simp; omega) _
  have h1 : Blk L b0 9 #[.string nm] := hL ▸ hb0 ▸ ((Blk.new w _ _).alloc _).alloc _
  have h2 : Blk L (b0 + 1) 3 #[.int .i64 t] := by
    have h := (Blk.new (w.alloc (.cells #[.string nm] 9)) 3 #[.int .i64 t]).alloc (.cells #[.string ⟨#[]⟩, .int .i64 0, .int .i64 0, .string ⟨#[]⟩, .bool false, .slice none 0 0] 29)
    rw [World.size_alloc, hb0, hL] at h
    exact h
  have hr0 : Blk L (b0 + 2) 29 #[.string ⟨#[]⟩, .int .i64 0, .int .i64 0, .string ⟨#[]⟩, .bool false, .slice none 0 0] := by
    have h := Blk.new ((w.alloc (.cells #[.string nm] 9)).alloc (.cells #[.int .i64 t] 3)) 29 #[.string ⟨#[]⟩, .int .i64 0, .int .i64 0, .string ⟨#[]⟩, .bool false, .slice none 0 0]
    rw [World.size_alloc, World.size_alloc, hb0, hL] at h
    exact h
  have HF := Lib.hid (filterA A n c l nm t b0 (b0 + 1) L h1 h2 (hA.below hBL) hn h6)
  have HBL := Lib.hid hBL; have HR0 := Lib.hid hr0; have HB0 := Lib.hid hb0
  have HOK := Lib.hid (show ∀ p ∈ l.filter (qA nm t), PrOk L p ∧ p.n ≤ 1000000 from fun p hp => ⟨((hA.ok p (List.mem_filter.1 hp).1).below hBL), hs p (List.mem_filter.1 hp).1⟩)
  have hle : (l.filter (qA nm t)).length ≤ 1000000 := Nat.le_trans (List.length_filter_le _ _) (by omega)
  unfold verA
  obtain ⟨F, hF⟩ : ∃ F, l.filter (qA nm t) = F := ⟨_, rfl⟩
  rw [hF] at HF HOK hle ⊢
  clear hA hn hs hBL h1 h2 hr0 hF
  by_cases hz : F = []
  · subst hz
    have HR0f := HR0
    show Calls _ _ _ _ fun e w' => e = .returned (.tuple #[.agg pr0.cells, .bool false]) ∧ Below w.heap.size w w'
    go_enter Try.func13, Try.ntmps13
    go_wp2_with (go_at_call 26; (with_reducible refine HF.out.mono ?_); rintro e w1 ⟨v1, rfl, ho1, hb1⟩; obtain ⟨A1, m1, rfl, -, -, -⟩ := own_formN ho1; have HB1 := Lib.hid (HBL.out.trans (hb1.mono HBL.out.size)); have HR1 := Lib.hid (HR0.out.below hb1 HR0.out.lt); obtain ⟨d0, d1, d2, d3, d4, d5⟩ := HR1.out.six; have f0 := HR1.out.frozen 0; have f1 := HR1.out.frozen 1; have f2 := HR1.out.frozen 2; have f3 := HR1.out.frozen 3; have f4 := HR1.out.frozen 4; have f5 := HR1.out.frozen 5; clear ho1 hb1)
    obtain ⟨W9, hW9⟩ : ∃ W9, ((((((w1.setCell ⟨b0 + 2, 0, none⟩ (.string ⟨#[]⟩)).setCell ⟨b0 + 2, 1, none⟩ (.int .i64 0)).setCell ⟨b0 + 2, 2, none⟩ (.int .i64 0)).setCell ⟨b0 + 2, 3, none⟩ (.string ⟨#[]⟩)).setCell ⟨b0 + 2, 4, none⟩ (.bool false)).setCell ⟨b0 + 2, 5, none⟩ (.slice none 0 0)) = W9 := ⟨_, rfl⟩
    have hPut : Put (b0 + 2) 29 #[.string ⟨#[]⟩, .int .i64 0, .int .i64 0, .string ⟨#[]⟩, .bool false, .slice none 0 0] w1 W9 := hW9 ▸ put6_all HR1.out _ _ _ _ _ _
    rw [hW9]
    clear hW9
    exact bodyPost_ret (v := .tuple #[.agg pr0.cells, .bool false]) (results_cell2 (p := 6) (u := 7) rfl _ _ (b0 + 2) 29 pr0.cells (0, 0) _ rfl hPut.blk Try.underlying29 rfl rfl) rfl ⟨rfl, hPut.below HB1.out (by have := HB0.out; omega)⟩
  · obtain ⟨N, hN⟩ : ∃ N, F.length = N + 1 := ⟨F.length - 1, by have := List.length_pos_iff.2 hz; omega⟩
    obtain ⟨p, hp⟩ : ∃ p, F.getD N pr0 = p := ⟨_, rfl⟩
    have hlast : F.getLast? = some p := by
      rw [List.getLast?_eq_getElem?, hN, ← hp]
      simp [List.getD, List.getElem?_eq_getElem (show N < F.length by omega)]
    rw [hlast]
    show Calls _ _ _ _ fun e w' => ∃ p', e = .returned (.tuple #[.agg p'.cells, .bool true]) ∧ PrOk w' p' ∧ DeepP p p' ∧ Below w.heap.size w w'
    have hmem : p ∈ F := by rw [← hp]; simp [List.getD, List.getElem?_eq_getElem (show N < F.length by omega)]
    have HPK := Lib.hid (HOK.out p hmem)
    have HCP := Lib.hid (fun (W : World) (h : PrOk W p) => copied_any p W h HPK.out.2)
    have HP := Lib.hid hp; have HN := Lib.hid hN
    clear hlast hmem hp hz
    have hNN : N ≤ 1000000 := by omega
    obtain ⟨pn, fr, fe, ca, pr, pA, pN, pC, bs⟩ := p
    unfold Pr.cells at HCP
    simp only at HCP
    clear hle hN
    go_enter Try.func13, Try.ntmps13
    go_wp2_with (first
      | (go_at_call 26; (with_reducible refine HF.out.mono ?_); rintro e w1 ⟨v1, rfl, ho1, hb1⟩; rw [HN.out] at ho1; obtain ⟨A1, m1, rfl, x1, x2, hrd, -⟩ := pr_own ho1 HN.out (fun p hp => (HOK.out p hp).1.below hb1); have HB1 := Lib.hid (HBL.out.trans (hb1.mono HBL.out.size)); have HR1 := Lib.hid (HR0.out.below hb1 HR0.out.lt); have HPW := Lib.hid (HPK.out.1.below hb1); obtain ⟨bk, off, rfl, hbl, hsix, -⟩ := hrd N (by have := HN.out; omega); rw [HP.out] at hsix; obtain ⟨e0, e1, e2, e3, e4, e5⟩ := (show Six w1 bk (off + N * 6) #[.string pn, .int .i64 fr, .int .i64 fe, .string ca, .bool pr, .slice pA pN pC] from hsix).all; clear ho1 hb1 hrd hbl hsix)
      | (go_at_call 28; (with_reducible refine (HCP.out _ HPW.out).mono ?_); rintro e w2 ⟨p', rfl, y1, y2, y3, hb2⟩; have HY := Lib.hid (show PrOk w2 p' ∧ DeepP ⟨pn, fr, fe, ca, pr, pA, pN, pC, bs⟩ p' ∧ PrNew w1.heap.size p' from ⟨y1, y2, y3⟩); have HLT := Lib.hid HR1.out.lt; have HB2 := Lib.hid (HB1.out.trans (hb2.mono HB1.out.size)); have HR2 := Lib.hid (HR1.out.below hb2 HR1.out.lt); clear e0 e1 e2 e3 e4 e5; obtain ⟨d0, d1, d2, d3, d4, d5⟩ := HR2.out.six; have f0 := HR2.out.frozen 0; have f1 := HR2.out.frozen 1; have f2 := HR2.out.frozen 2; have f3 := HR2.out.frozen 3; have f4 := HR2.out.frozen 4; have f5 := HR2.out.frozen 5; clear y1 y2 y3 hb2; obtain ⟨qn, qfr, qfe, qca, qpr, qA, qN, qC, qbs⟩ := p'; simp only [Pr.cells]))
    obtain ⟨W9, hW9⟩ : ∃ W9, ((((((w2.setCell ⟨b0 + 2, 0, none⟩ (.string qn)).setCell ⟨b0 + 2, 1, none⟩ (.int .i64 qfr)).setCell ⟨b0 + 2, 2, none⟩ (.int .i64 qfe)).setCell ⟨b0 + 2, 3, none⟩ (.string qca)).setCell ⟨b0 + 2, 4, none⟩ (.bool qpr)).setCell ⟨b0 + 2, 5, none⟩ (.slice qA qN qC)) = W9 := ⟨_, rfl⟩
    have hPut : Put (b0 + 2) 29 #[.string qn, .int .i64 qfr, .int .i64 qfe, .string qca, .bool qpr, .slice qA qN qC] w2 W9 := hW9 ▸ put6_all HR2.out _ _ _ _ _ _
    rw [hW9]
    clear hW9
    refine bodyPost_ret (v := .tuple #[.agg (Pr.cells ⟨qn, qfr, qfe, qca, qpr, qA, qN, qC, qbs⟩), .bool true]) (results_cell2 (p := 6) (u := 7) rfl _ _ (b0 + 2) 29 (Pr.cells ⟨qn, qfr, qfe, qca, qpr, qA, qN, qC, qbs⟩) (0, 0) _ rfl hPut.blk Try.underlying29 rfl rfl) rfl ⟨_, rfl, ?_, HY.out.2.1, hPut.below HB2.out (by have := HB0.out; omega)⟩
    exact HY.out.2.2.keep HY.out.1 (fun k hk => hPut.keep k (by have := HLT.out; omega)) (by rw [hPut.size]; exact Nat.le_refl _)
end Go.Proofs.Ythjckkcafhiomaa.Pd
