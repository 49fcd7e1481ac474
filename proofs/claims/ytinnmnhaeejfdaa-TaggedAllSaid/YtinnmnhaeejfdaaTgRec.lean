/- Walk: the record of elements. -/
import Derived.Test.YtinnmnhaeejfdaaTgSet2
namespace Go.Proofs.Ytinnmnhaeejfdaa
open Go.RowKit

theorem RcB.put {w : World} {g : Nat} {r0 : Rc} (r : Rc) (h : RcB w g r0) : RcB ((((((((((((w.setCell ⟨g, 0, none⟩ (.int .i64 r.s0)).setCell ⟨g, 1, none⟩ (.int .i64 r.s1)).setCell ⟨g, 2, none⟩ (.int .i64 r.s2)).setCell ⟨g, 3, none⟩ (.string r.sa)).setCell ⟨g, 4, none⟩ (.string r.sb)).setCell ⟨g, 5, none⟩ (.int .i64 r.s5)).setCell ⟨g, 6, none⟩ (.int .i64 r.s6)).setCell ⟨g, 7, none⟩ (.int .i64 r.s7)).setCell ⟨g, 8, none⟩ (.int .i64 r.s8)).setCell ⟨g, 9, none⟩ (.bool r.b9)).setCell ⟨g, 10, none⟩ (.int .i64 r.s10)).setCell ⟨g, 11, none⟩ (.bool r.b11)) g r := by
  unfold RcB Rc.cells at *
  simp [World.setCell, Array.getElem?_modify, h]
theorem results_cell2 {P : Program} {fn : Func} {p u : Tmp} {ty : TypeId} (h : fn.results = #[.cell p ty, .tmp u]) (tmps : Array Value) (w : World) (g : Nat) (t : TypeId) (cs : Array Value) (fr : Nat × Nat) (d : TypeDesc)
    (hp : tmps.getD p undef = .pointer (some ⟨g, 0, none⟩)) (hg : w.heap[g]? = some (.cells cs t fr))
    (hu : P.underlying ty = some d) (hd : (match d with | .struct _ | .array _ _ => true | _ => false) = true) (hi : (P.info? ty).map (·.size) = some cs.size) :
    (results fn tmps).run P w = .ok (.tuple #[.agg cs, tmps.getD u undef]) w := by
  have hp' : tmps[p]?.getD undef = .pointer (some ⟨g, 0, none⟩) := by simpa using hp
  simp [results, h, hp', asAddr, run_loadVar_row w g t ty cs fr d hg hu hd hi]
theorem RcB.grown {w w' : World} {q g : Nat} {r : Rc} (h : RcB w q r) (k : w.grownBy w' (some g)) (hne : q ≠ g) : RcB w' q r := by
  unfold RcB at *
  rw [k.block q (heap_lt h) (fun e => hne (Option.some.inj e))]; exact h
theorem below_grown {B g : Nat} {a b c : World} (h : Below B a b) (k : b.grownBy c (some g)) (hg : B ≤ g) (hs : B ≤ b.heap.size) : Below B a c :=
  h.trans ⟨k.os, k.tape, k.output, k.size, fun j hj => k.block j (by omega) (by intro e; have := Option.some.inj e; omega)⟩
/-- What record gives. -/
def RecP (es : List El) (w : World) (e : Ending) (w' : World) : Prop :=
  ∃ (ok : Bool) (r : Rc), e = .returned (.tuple #[.agg r.cells, .bool ok]) ∧ recM rc0 es = (if ok then some r else none) ∧ (ok = false → r = rc0) ∧ Below w.heap.size w w'
set_option maxRecDepth 100000 in
set_option maxHeartbeats 16000000 in
theorem record_any {A : Option Addr} {n c : Nat} {es : List El} {w : World} (hE : Els w A n es none) (hn : n ≤ 100000) (hz : ∀ e ∈ es, e.2.length ≤ 100000) :
    Calls Try.prog 33 #[.slice A n c] w (RecP es w) := by
  have hl := hE.len
  have hni : (n : Int) ≤ 100000 := by omega
  obtain ⟨W1, hW1, hb1, hx1, hs1⟩ := rec_world w rc0
  obtain ⟨W2, hW2, hb2, hx2, hs2⟩ := rec_world W1 rc0
  obtain ⟨b0, hb0⟩ : ∃ b0, w.heap.size = b0 := ⟨_, rfl⟩
  obtain ⟨g, hg⟩ : ∃ g, W1.heap.size = g := ⟨_, rfl⟩
  have hx0 := hx1.below hb2 (by omega)
  have hbw : Below w.heap.size w W2 := hb1.trans (hb2.mono (by omega))
  rw [hb0] at hx0 hbw
  rw [hg] at hx2
  have HE := Lib.hid hE; have HL := Lib.hid hl; have HZ := Lib.hid hz; have HX0 := Lib.hid hx0; have HX := Lib.hid hx2; have HBW := Lib.hid hbw
  have HB0 := Lib.hid hb0
  have HG : Hid (g = b0 + 1) := Lib.hid (by omega)
  simp only [Rc.cells, rc0] at hW1 hW2
  clear hE hl hz hb1 hx1 hs1 hb2 hx2 hs2 hx0 hbw hn
  go_enter Try.func33, Try.ntmps33
  go_wp2
  go_loopw [9] (fun i wr => ∃ (k : Nat) (r : Rc), i = .int .i64 (k : Int) ∧ k ≤ n ∧ Hid (recM rc0 es = recM r (es.drop k)) ∧ Hid (RcB wr g r) ∧ Hid (RcB wr b0 rc0) ∧ Hid (Below b0 w wr) ∧ Hid (b0 ≤ wr.heap.size)) (fun i _ => n - (intOf i).toNat)
  case atStart => exact ⟨0, rc0, rfl, by omega, Lib.hid (by simp), HX, HX0, HBW, Lib.hid (Nat.le_of_lt (heap_lt HX0.out))⟩
  case round =>
    obtain ⟨k, r, rfl, hk, HM, HX, HX0, HB, HS⟩ := hrel
    clear hW1 hW2
    by_cases hlt : k < n
    · obtain ⟨e, he⟩ : ∃ e, es[k]? = some e := ⟨_, List.getElem?_eq_getElem (by have := HL.out; omega)⟩
      obtain ⟨b, off, B, m, d, rfl, hbl, -, h0, h1, hB, -⟩ := HE.out.elem k e he
      have hze := HZ.out e (List.mem_of_getElem? he)
      rw [HB0.out] at hbl
      have h0 := (HB.out.cell (p := ⟨b, off + k * 2, none⟩) hbl).trans h0
      have h1 := (HB.out.cell (p := ⟨b, off + k * 2 + 1, none⟩) hbl).trans h1
      have hBw : Byt wr B m d e.2 := hB.below (by rw [HB0.out]; exact HB.out)
      have hin := hB.in
      have hm := HM.out
      rw [drop_at' he, recM] at hm
      obtain ⟨t, l⟩ := e
      simp only at h0 h1 hBw hin hm hze
      have hlt' : (k : Int) < (n : Int) := by omega
      have hset := set_any (t := t) (HX.out.alloc (.cells #[.int .i64 t, .slice B m d] 47)) (hBw.below (below_lit wr _)) (by have := hBw.len; omega) (fun x hx hne => by have h9 := hin x hx hne; rw [HB0.out] at h9; have := HG.out; omega)
      have hx0a := HX0.out.alloc (.cells #[.int .i64 t, .slice B m d] 47)
      have HST := Lib.hid hset; have HXA := Lib.hid hx0a
      clear hset hx0a hBw hB hin hze he hbl
      cases hs : setM r t l with
      | none =>
        rw [hs] at hm
        have HMN := Lib.hid hm; have HSM := Lib.hid hs
        clear hm hs
        go_wp2_with (go_at_call 45; refine HST.out.mono ?_; rintro e w5 ⟨ok, r5, rfl, hm5, hx5, hg5⟩; obtain rfl : ok = false := (by rw [HSM.out] at hm5; cases ok with | false => rfl | true => simp at hm5); have hx05 := HXA.out.grown hg5 (by have := HG.out; omega); have HG5 := Lib.hid hg5; have HX05 := Lib.hid hx05; obtain ⟨q0, q1, q2, q3, q4, q5, q6, q7, q8, q9, q10, q11⟩ := hx05.cells; have hfr := hx05.fr; clear hm5 hx5 hg5 hx05)
        have hbf : Below b0 w w5 := below_grown (HB.out.alloc HS.out _) HG5.out (by have := HG.out; omega) (by rw [World.size_alloc]; have := HS.out; omega)
        refine bodyPost_ret (v := .tuple #[.agg rc0.cells, .bool false]) ?_ rfl ⟨false, rc0, rfl, HMN.out, fun _ => rfl, ?_⟩
        · exact results_cell2 (p := 2) (u := 3) rfl _ _ b0 34 rc0.cells (0, 0) _ rfl (HX05.out.put rc0) Try.underlying34 rfl rfl
        · rw [HB0.out]
          repeat' apply Below.setCell
          all_goals first | exact hbf | exact Nat.le_refl _
      | some r' =>
        rw [hs] at hm
        have HMN := Lib.hid hm; have HSM := Lib.hid hs
        clear hm hs
        go_wp2_with (go_at_call 45; refine HST.out.mono ?_; rintro e w5 ⟨ok, r5, rfl, hm5, hx5, hg5⟩; obtain ⟨rfl, rfl⟩ : ok = true ∧ r5 = r' := (by rw [HSM.out] at hm5; cases ok with | false => simp at hm5 | true => exact ⟨rfl, (by simpa using hm5.symm)⟩); have HX05 := Lib.hid (HXA.out.grown hg5 (by have := HG.out; omega)); have HX5 := Lib.hid hx5; have HG5 := Lib.hid hg5; clear hm5 hx5 hg5)
        go_roundw
        case rel => exact ⟨k + 1, r5, by first | rfl | (simp; done), by omega, HMN, HX5, HX05, Lib.hid (below_grown (HB.out.alloc HS.out _) HG5.out (by have := HG.out; omega) (by rw [World.size_alloc]; have := HS.out; omega)), Lib.hid (by have := HG5.out.size; rw [World.size_alloc] at this; have := HS.out; omega)⟩
        case measure => simp [intOf]; omega
    · obtain rfl : k = n := by omega
      have hm := HM.out
      rw [List.drop_eq_nil_of_le (by have := HL.out; omega)] at hm
      have HMN := Lib.hid (show recM rc0 es = some r from hm)
      obtain ⟨k0, k1, k2, k3, k4, k5, k6, k7, k8, k9, k10, k11⟩ := HX.out.cells
      obtain ⟨q0, q1, q2, q3, q4, q5, q6, q7, q8, q9, q10, q11⟩ := HX0.out.cells
      have hfr := HX0.out.fr
      clear hm HM
      go_wp2
      refine bodyPost_ret (v := .tuple #[.agg r.cells, .bool true]) ?_ rfl ⟨true, r, rfl, HMN.out, fun h => (by cases h), ?_⟩
      · exact results_cell2 (p := 2) (u := 3) rfl _ _ b0 34 r.cells (0, 0) _ rfl (HX0.out.put r) Try.underlying34 rfl rfl
      · rw [HB0.out]
        repeat' apply Below.setCell
        all_goals first | exact HB.out | exact Nat.le_refl _
end Go.Proofs.Ytinnmnhaeejfdaa
