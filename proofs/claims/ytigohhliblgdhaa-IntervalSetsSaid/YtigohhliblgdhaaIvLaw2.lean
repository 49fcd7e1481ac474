/- Walks: the laws on sets and on cuts. -/
import Derived.Test.YtigohhliblgdhaaIvLaw1
namespace Go.Proofs.Ytigohhliblgdhaa
open Go.RowKit

theorem in_is (A : Option Addr) (n c : Nat) (l : List Pd) (t : Int) (v : Bool) (hv : mem l t = v) (w : World) (hA : PR w A l) (hn : l.length = n) (h5 : n ≤ 100000) (hc : n ≤ c) :
    Calls Try.prog 28 #[.slice A n c, .int .i64 t] w fun e w' => e = .returned (.bool v) ∧ Below w.heap.size w w' := by
  subst hv; exact in_any A n c l t w hA hn h5 hc
/-- A contract that asks for what is kept, read from a world on. -/
theorem sinceR {P : Program} {f : FuncId} {args : Array Value} {v : Value} {w0 : World} (h : ∀ w', Below w0.heap.size w0 w' → Calls P f args w' fun e w'' => e = .returned v ∧ Below w'.heap.size w' w'') {w1 : World} (hb : Below w0.heap.size w0 w1) :
    Calls P f args w1 fun e w' => e = .returned v ∧ Below w0.heap.size w0 w' :=
  (h w1 hb).mono fun _ _ ⟨he, hb1⟩ => ⟨he, hb.trans (hb1.mono hb.size)⟩
set_option maxHeartbeats 8000000 in
theorem walkIntervalSets (A : Option Addr) (n c : Nat) (la : List Pd) (B : Option Addr) (m c' : Nat) (lb : List Pd) (t : Int) (w : World) (hl : la.length = n) (hc : n ≤ c) (hA : PR w A la) (hm : lb.length = m) (hc' : m ≤ c') (hB : PR w B lb) (_ : (Lit.int .i64 t).wf = true) :
    Calls Try.prog 7 #[.slice A n c, .slice B m c', .int .i64 t] w fun e w' => e = .returned (.bool true) ∧ Below w.heap.size w w' := by
  have HF := Lib.hid (few_any A B n m c c' w)
  rcases few_case n m with ⟨h1, h2, h⟩ | h
  · have HF2 := HF.out
    rw [h] at HF2
    have HF := Lib.hid HF2
    have HA := Lib.hid hA; have HB := Lib.hid hB
    have hT := cmb_length fCover la []
    have hV := cmb_length fMinus la lb
    have hU := cmb_length fCommon la lb
    rw [hl] at hT
    rw [hl, hm] at hV hU
    simp only [List.length_nil, Nat.mul_zero, Nat.add_zero] at hT
    obtain ⟨cT, mT⟩ := cmb_spec (f := fCover) rfl la []
    obtain ⟨cV, mV⟩ := cmb_spec (f := fMinus) rfl la lb
    obtain ⟨cU, mU⟩ := cmb_spec (f := fCommon) rfl la lb
    have H0 := Lib.hid (cover_any A n c la w hA hl hc (by omega))
    have H1 := Lib.hid (fun W h h' => minus_any A B n m c c' la lb W h h' hl hm hc hc' (by omega))
    have H2 := Lib.hid (fun W h h' => common_any A B n m c c' la lb W h h' hl hm hc hc' (by omega))
    generalize cmb fCover la [] = T at *
    generalize cmb fMinus la lb = V at *
    generalize cmb fCommon la lb = U at *
    have HX := Lib.hid (fun v h W hp => in_is A n c la t v h W hp hl (by omega) hc)
    have HY := Lib.hid (fun v h W hp => in_is B m c' lb t v h W hp hm (by omega) hc')
    have e1 := mT t
    have e2 := mV t
    have e3 := mU t
    have HcT := Lib.hid cT; have HcV := Lib.hid cV; have HcU := Lib.hid cU
    clear mT mV mU cT cV cU hA hB hl hm HF2 h
    cases hx : mem la t <;> cases hy : mem lb t
    all_goals
      rw [hx] at e1
      rw [hx, hy] at e2 e3
      simp only [fCover, fMinus, fCommon, Bool.not_true, Bool.not_false, Bool.and_true, Bool.and_false] at e1 e2 e3
      have HX2 := Lib.hid (HX.out _ hx); have HY2 := Lib.hid (HY.out _ hy)
      have E1 := Lib.hid e1; have E2 := Lib.hid e2; have E3 := Lib.hid e3
      clear hx hy e1 e2 e3
      go_enter Try.func7, Try.ntmps7
      go_upto_region 4 with (first
        | (go_at_call 19; (with_reducible refine HF.out.mono ?_); rintro e w0 ⟨rfl, rfl⟩)
        | (go_at_call 20; (with_reducible refine H0.out.mono ?_); rintro e w1 ⟨R1, r1, rfl, hr1, hR1, hb1⟩; have HR1 := Lib.hid hR1; have hs1 := hb1.size; clear hR1)
        | (go_at_call 24; (with_reducible refine (H1.out _ (HA.out.below hb1) (HB.out.below hb1)).mono ?_); rintro e w2 ⟨R2, r2, rfl, hr2, hR2, hb2⟩; have HR2 := Lib.hid hR2; have hb2' := hb1.trans (hb2.mono hs1); have hs2 := hb2'.size; have HR12 := Lib.hid (HR1.out.below hb2); clear hR2 hb2)
        | (go_at_call 26; (with_reducible refine (H2.out _ (HA.out.below hb2') (HB.out.below hb2')).mono ?_); rintro e w3 ⟨R3, r3, rfl, hr3, hR3, hb3⟩; have HR3 := Lib.hid hR3; have hb3' := hb2'.trans (hb3.mono hs2); have hs3 := hb3'.size; have HR13 := Lib.hid (HR12.out.below hb3); have HR23 := Lib.hid (HR2.out.below hb3); have HA3 := Lib.hid (HA.out.below hb3'); have HB3 := Lib.hid (HB.out.below hb3'); clear hR3 hb3))
      have C1 := Lib.hid (fun W (hb : Below w3.heap.size w3 W) => canonical_yes R1 _ r1 T W (HR13.out.below hb) HcT.out rfl (by omega) hr1)
      have C2 := Lib.hid (fun W (hb : Below w3.heap.size w3 W) => canonical_yes R2 _ r2 V W (HR23.out.below hb) HcV.out rfl (by omega) hr2)
      have C3 := Lib.hid (fun W (hb : Below w3.heap.size w3 W) => canonical_yes R3 _ r3 U W (HR3.out.below hb) HcU.out rfl (by omega) hr3)
      have I1 := Lib.hid (fun W (hb : Below w3.heap.size w3 W) => in_is R1 _ r1 T t _ E1.out W (HR13.out.below hb) rfl (by omega) hr1)
      have I2 := Lib.hid (fun W (hb : Below w3.heap.size w3 W) => in_is R2 _ r2 V t _ E2.out W (HR23.out.below hb) rfl (by omega) hr2)
      have I3 := Lib.hid (fun W (hb : Below w3.heap.size w3 W) => in_is R3 _ r3 U t _ E3.out W (HR3.out.below hb) rfl (by omega) hr3)
      have X1 := Lib.hid (fun W (hb : Below w3.heap.size w3 W) => HX2.out W (HA3.out.below hb))
      have Y1 := Lib.hid (fun W (hb : Below w3.heap.size w3 W) => HY2.out W (HB3.out.below hb))
      have AW := Lib.hid (fun W (_ : Below w3.heap.size w3 W) => awake_any W)
      have hb := Below.refl w3.heap.size w3
      go_wp2_with (first
        | (go_at_call 28; (with_reducible refine (sinceR X1.out hb).mono ?_); clear hb; rintro e wx ⟨rfl, hb⟩)
        | (go_at_call 28; (with_reducible refine (sinceR Y1.out hb).mono ?_); clear hb; rintro e wx ⟨rfl, hb⟩)
        | (go_at_call 29; (with_reducible refine (sinceR C1.out hb).mono ?_); clear hb; rintro e wx ⟨rfl, hb⟩)
        | (go_at_call 29; (with_reducible refine (sinceR C2.out hb).mono ?_); clear hb; rintro e wx ⟨rfl, hb⟩)
        | (go_at_call 29; (with_reducible refine (sinceR C3.out hb).mono ?_); clear hb; rintro e wx ⟨rfl, hb⟩)
        | (go_at_call 28; (with_reducible refine (sinceR I1.out hb).mono ?_); clear hb; rintro e wx ⟨rfl, hb⟩)
        | (go_at_call 28; (with_reducible refine (sinceR I2.out hb).mono ?_); clear hb; rintro e wx ⟨rfl, hb⟩)
        | (go_at_call 28; (with_reducible refine (sinceR I3.out hb).mono ?_); clear hb; rintro e wx ⟨rfl, hb⟩)
        | (go_at_call 15; (with_reducible refine (sinceR AW.out hb).mono ?_); clear hb; rintro e wx ⟨rfl, hb⟩))
      go_ret
      exact ⟨rfl, hb3'.trans (hb.mono hs3)⟩
  · have HF2 := HF.out
    rw [h] at HF2
    have HF := Lib.hid HF2
    clear HF2 h
    go_enter Try.func7, Try.ntmps7
    go_wp2_with (first
      | (go_at_call 19; (with_reducible refine HF.out.mono ?_); rintro e w0 ⟨rfl, rfl⟩)
      | (go_at_call 15; (with_reducible refine (awake_any _).mono ?_); rintro e w6 ⟨rfl, hb6⟩))
    go_ret
    exact ⟨rfl, hb6⟩
end Go.Proofs.Ytigohhliblgdhaa
