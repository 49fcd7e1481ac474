/- Walk of the law on negations. -/
import Derived.Test.YtklpaonhmmfioaaEvLg
import Derived.Deep.RegionHeldLaw
namespace Go.Proofs.Ytklpaonhmmfioaa
open Go.RowKit Ck Go.Lib

set_option maxRecDepth 100000 in
set_option maxHeartbeats 64000000 in
theorem walkEvalLogic (o1 n1 : Int) (t1 : ByteArray) (us1 : List Ex) (A1 : Option Addr) (d1 m1 c1 : Nat) (o2 n2 : Int) (t2 : ByteArray) (us2 : List Ex) (A2 : Option Addr) (d2 m2 c2 : Nat) (v : En) (w : World) (hA : XA w d1 A1 us1) (hn : us1.length = m1) (hc : m1 ≤ c1) (hm : c1 ≤ maxLen) (ht : t1.size ≤ maxLen) (hA2 : XA w d2 A2 us2) (hn2 : us2.length = m2) (hc2 : m2 ≤ c2) (hm2 : c2 ≤ maxLen) (ht2 : t2.size ≤ maxLen) :
    Calls Try.prog 8 #[.agg #[.int .i64 o1, .int .i64 n1, .string t1, .slice A1 m1 c1], .agg #[.int .i64 o2, .int .i64 n2, .string t2, .slice A2 m2 c2], .agg #[.int .i64 v.a0, .int .i64 v.a1, .int .i64 v.a2, .int .i64 v.a3, .int .i64 v.a4, .int .i64 v.a5, .string v.zn, .string v.bn, .bool v.fm]] w fun e w' => e = .returned (.bool true) ∧ Below w.heap.size w w' := by
  obtain ⟨D, hD1, hD2⟩ : ∃ D, d1 ≤ D ∧ d2 ≤ D := ⟨d1 + d2, by omega, by omega⟩
  have OE : Hid (Op1 w D t1 A1 m1 c1 us1) := Lib.hid ⟨hA.mono hD1, hn, hc, hm, ht⟩
  have OF : Hid (Op1 w D t2 A2 m2 c2 us2) := Lib.hid ⟨hA2.mono hD2, hn2, hc2, hm2, ht2⟩
  clear hA hA2 hD1 hD2
  have hst := LgS.new w o1 n1 o2 n2 t1 t2 A1 A2 m1 c1 m2 c2 v
  obtain ⟨p, hp⟩ : ∃ p, w.heap.size = p := ⟨_, rfl⟩
  rw [hp] at hst
  have HAW := Lib.hid (fun W => awake_any W)
  obtain ⟨qa, hqa⟩ : ∃ q, sml (.mk o1 n1 t1 us1) = q := ⟨_, rfl⟩
  obtain ⟨qb, hqb⟩ : ∃ q, sml (.mk o2 n2 t2 us2) = q := ⟨_, rfl⟩
  have HSA := Lib.hid (fun W (h : LgS w p o1 n1 o2 n2 t1 t2 A1 A2 m1 c1 m2 c2 v W) => evSmall_is hqa A1 D m1 c1 W (h.op1 OE.out).1 hn hc hm ht)
  have HSB := Lib.hid (fun W (h : LgS w p o1 n1 o2 n2 t1 t2 A1 A2 m1 c1 m2 c2 v W) => evSmall_is hqb A2 D m2 c2 W (h.op2 OF.out).1 hn2 hc2 hm2 ht2)
  obtain ⟨ea, hea⟩ : ∃ x, sortX 16 (e1 (e1 (e1 (.mk o1 n1 t1 us1)))) = x := ⟨_, rfl⟩
  obtain ⟨eb, heb⟩ : ∃ x, sortX 16 (e1 (e1 (e1 (.mk o2 n2 t2 us2)))) = x := ⟨_, rfl⟩
  obtain ⟨sa, xa⟩ := ea
  obtain ⟨sb, xb⟩ := eb
  have HEA := Lib.hid (fun g d W h => lgE1 hea g d W h)
  have HEB := Lib.hid (fun g d W h => lgE1 heb g d W h)
  go_enter Try.func8, Try.ntmps8
  go_upto_region 1 with fail
  generalize ((w.alloc (.cells #[.int .i64 o1, .int .i64 n1, .string t1, .slice A1 m1 c1] 24)).alloc (.cells #[.int .i64 o2, .int .i64 n2, .string t2, .slice A2 m2 c2] 24)).alloc (.cells #[.int .i64 v.a0, .int .i64 v.a1, .int .i64 v.a2, .int .i64 v.a3, .int .i64 v.a4, .int .i64 v.a5, .string v.zn, .string v.bn, .bool v.fm] 26) = L at hst ⊢
  have ST := Lib.hid hst
  clear hst hp hqa hqb
  obtain ⟨⟨k0, k1, k2, k3⟩, ⟨l0, l1, l2, l3⟩, d0, d1, d2, d3, d4, d5, d6, d7, d8⟩ := ST.out.cells
  cases qa
  · go_wp2_with (first
      | (go_at_call 10; (with_reducible refine (HSA.out _ ST.out).mono ?_); rintro e wn ⟨rfl, hb⟩; replace ST := Lib.hid (ST.out.keep hb); clear hb k0 k1 k2 k3 l0 l1 l2 l3 d0 d1 d2 d3 d4 d5 d6 d7 d8; obtain ⟨⟨k0, k1, k2, k3⟩, ⟨l0, l1, l2, l3⟩, d0, d1, d2, d3, d4, d5, d6, d7, d8⟩ := ST.out.cells)
      | (go_at_call 11; (with_reducible refine (HAW.out _).mono ?_); rintro e wz ⟨rfl, hbz⟩; replace ST := Lib.hid (ST.out.keep hbz); clear hbz))
    go_ret
    exact ⟨rfl, ST.out.1⟩
  cases qb
  · go_wp2_with (first
      | (go_at_call 10; (with_reducible refine (HSA.out _ ST.out).mono ?_); rintro e wn ⟨rfl, hb⟩; replace ST := Lib.hid (ST.out.keep hb); clear hb k0 k1 k2 k3 l0 l1 l2 l3 d0 d1 d2 d3 d4 d5 d6 d7 d8; obtain ⟨⟨k0, k1, k2, k3⟩, ⟨l0, l1, l2, l3⟩, d0, d1, d2, d3, d4, d5, d6, d7, d8⟩ := ST.out.cells)
      | (go_at_call 10; (with_reducible refine (HSB.out _ ST.out).mono ?_); rintro e wn ⟨rfl, hb⟩; replace ST := Lib.hid (ST.out.keep hb); clear hb k0 k1 k2 k3 l0 l1 l2 l3 d0 d1 d2 d3 d4 d5 d6 d7 d8; obtain ⟨⟨k0, k1, k2, k3⟩, ⟨l0, l1, l2, l3⟩, d0, d1, d2, d3, d4, d5, d6, d7, d8⟩ := ST.out.cells)
      | (go_at_call 11; (with_reducible refine (HAW.out _).mono ?_); rintro e wz ⟨rfl, hbz⟩; replace ST := Lib.hid (ST.out.keep hbz); clear hbz))
    go_ret
    exact ⟨rfl, ST.out.1⟩
  go_upto_region 5 with (first
    | (go_at_call 10; (with_reducible refine (HSA.out _ ST.out).mono ?_); rintro e wn ⟨rfl, hb⟩; replace ST := Lib.hid (ST.out.keep hb); clear hb k0 k1 k2 k3 l0 l1 l2 l3 d0 d1 d2 d3 d4 d5 d6 d7 d8; obtain ⟨⟨k0, k1, k2, k3⟩, ⟨l0, l1, l2, l3⟩, d0, d1, d2, d3, d4, d5, d6, d7, d8⟩ := ST.out.cells)
    | (go_at_call 10; (with_reducible refine (HSB.out _ ST.out).mono ?_); rintro e wn ⟨rfl, hb⟩; replace ST := Lib.hid (ST.out.keep hb); clear hb k0 k1 k2 k3 l0 l1 l2 l3 d0 d1 d2 d3 d4 d5 d6 d7 d8; obtain ⟨⟨k0, k1, k2, k3⟩, ⟨l0, l1, l2, l3⟩, d0, d1, d2, d3, d4, d5, d6, d7, d8⟩ := ST.out.cells)
    | (go_at_call 21; (with_reducible refine (not_is _ _ _ _ _ _ _ (ST.out.op1 OE.out)).mono ?_); rintro e wn ⟨g1, rfl, hx, hb⟩; replace ST := Lib.hid (ST.out.keep hb); have HX1 := Lib.hid hx; clear hb hx k0 k1 k2 k3 l0 l1 l2 l3 d0 d1 d2 d3 d4 d5 d6 d7 d8; obtain ⟨⟨k0, k1, k2, k3⟩, ⟨l0, l1, l2, l3⟩, d0, d1, d2, d3, d4, d5, d6, d7, d8⟩ := ST.out.cells)
    | (go_at_call 21; (with_reducible refine (not_is _ _ _ _ _ _ _ (Op1.one HX1.out)).mono ?_); rintro e wn ⟨g2, rfl, hx, hb⟩; replace ST := Lib.hid (ST.out.keep hb); have HX2 := Lib.hid hx; clear hb hx k0 k1 k2 k3 l0 l1 l2 l3 d0 d1 d2 d3 d4 d5 d6 d7 d8; obtain ⟨⟨k0, k1, k2, k3⟩, ⟨l0, l1, l2, l3⟩, d0, d1, d2, d3, d4, d5, d6, d7, d8⟩ := ST.out.cells)
    | (go_at_call 21; (with_reducible refine (not_is _ _ _ _ _ _ _ (Op1.one HX2.out)).mono ?_); rintro e wn ⟨g3, rfl, hx, hb⟩; replace ST := Lib.hid (ST.out.keep hb); have HX3 := Lib.hid hx; clear hb hx k0 k1 k2 k3 l0 l1 l2 l3 d0 d1 d2 d3 d4 d5 d6 d7 d8; obtain ⟨⟨k0, k1, k2, k3⟩, ⟨l0, l1, l2, l3⟩, d0, d1, d2, d3, d4, d5, d6, d7, d8⟩ := ST.out.cells)
    | (go_at_call 20; (with_reducible refine (HEA.out _ _ _ HX3.out).mono ?_); rintro e wn ⟨rfl, hb⟩; replace ST := Lib.hid (ST.out.keep hb); clear hb HX1 HX2 HX3 HEA k0 k1 k2 k3 l0 l1 l2 l3 d0 d1 d2 d3 d4 d5 d6 d7 d8; obtain ⟨⟨k0, k1, k2, k3⟩, ⟨l0, l1, l2, l3⟩, d0, d1, d2, d3, d4, d5, d6, d7, d8⟩ := ST.out.cells)
    | (go_at_call 21; (with_reducible refine (not_is _ _ _ _ _ _ _ (ST.out.op2 OF.out)).mono ?_); rintro e wn ⟨g4, rfl, hx, hb⟩; replace ST := Lib.hid (ST.out.keep hb); have HY1 := Lib.hid hx; clear hb hx k0 k1 k2 k3 l0 l1 l2 l3 d0 d1 d2 d3 d4 d5 d6 d7 d8; obtain ⟨⟨k0, k1, k2, k3⟩, ⟨l0, l1, l2, l3⟩, d0, d1, d2, d3, d4, d5, d6, d7, d8⟩ := ST.out.cells)
    | (go_at_call 21; (with_reducible refine (not_is _ _ _ _ _ _ _ (Op1.one HY1.out)).mono ?_); rintro e wn ⟨g5, rfl, hx, hb⟩; replace ST := Lib.hid (ST.out.keep hb); have HY2 := Lib.hid hx; clear hb hx k0 k1 k2 k3 l0 l1 l2 l3 d0 d1 d2 d3 d4 d5 d6 d7 d8; obtain ⟨⟨k0, k1, k2, k3⟩, ⟨l0, l1, l2, l3⟩, d0, d1, d2, d3, d4, d5, d6, d7, d8⟩ := ST.out.cells)
    | (go_at_call 21; (with_reducible refine (not_is _ _ _ _ _ _ _ (Op1.one HY2.out)).mono ?_); rintro e wn ⟨g6, rfl, hx, hb⟩; replace ST := Lib.hid (ST.out.keep hb); have HY3 := Lib.hid hx; clear hb hx k0 k1 k2 k3 l0 l1 l2 l3 d0 d1 d2 d3 d4 d5 d6 d7 d8; obtain ⟨⟨k0, k1, k2, k3⟩, ⟨l0, l1, l2, l3⟩, d0, d1, d2, d3, d4, d5, d6, d7, d8⟩ := ST.out.cells)
    | (go_at_call 20; (with_reducible refine (HEB.out _ _ _ HY3.out).mono ?_); rintro e wn ⟨rfl, hb⟩; replace ST := Lib.hid (ST.out.keep hb); clear hb HY1 HY2 HY3 HEB k0 k1 k2 k3 l0 l1 l2 l3 d0 d1 d2 d3 d4 d5 d6 d7 d8; obtain ⟨⟨k0, k1, k2, k3⟩, ⟨l0, l1, l2, l3⟩, d0, d1, d2, d3, d4, d5, d6, d7, d8⟩ := ST.out.cells))
  clear HSA HSB
  by_cases c1 : xa = 0
  case neg =>
    have f1 : (xa != 0) = true := by simpa using c1
    clear c1 hea heb
    go_wp2_with (go_at_call 11; (with_reducible refine (HAW.out _).mono ?_); rintro e wz ⟨rfl, hbz⟩; replace ST := Lib.hid (ST.out.keep hbz); clear hbz)
    go_ret
    exact ⟨rfl, ST.out.1⟩
  subst c1
  by_cases c2 : xb = 0
  case neg =>
    have f1 : (xb != 0) = true := by simpa using c2
    clear c2 hea heb
    go_wp2_with (go_at_call 11; (with_reducible refine (HAW.out _).mono ?_); rintro e wz ⟨rfl, hbz⟩; replace ST := Lib.hid (ST.out.keep hbz); clear hbz)
    go_ret
    exact ⟨rfl, ST.out.1⟩
  subst c2
  by_cases c3 : sa = 3
  case neg =>
    have f1 : (sa != 3) = true := by simpa using c3
    clear c3 hea heb
    go_wp2_with (go_at_call 11; (with_reducible refine (HAW.out _).mono ?_); rintro e wz ⟨rfl, hbz⟩; replace ST := Lib.hid (ST.out.keep hbz); clear hbz)
    go_ret
    exact ⟨rfl, ST.out.1⟩
  subst c3
  by_cases c4 : sb = 3
  case neg =>
    have f1 : (sb != 3) = true := by simpa using c4
    clear c4 hea heb
    go_wp2_with (go_at_call 11; (with_reducible refine (HAW.out _).mono ?_); rintro e wz ⟨rfl, hbz⟩; replace ST := Lib.hid (ST.out.keep hbz); clear hbz)
    go_ret
    exact ⟨rfl, ST.out.1⟩
  subst c4
  have sE := dnS1 (dnS1 (dnS1 hea))
  have sF := dnS1 (dnS1 (dnS1 heb))
  obtain ⟨a, ha⟩ : ∃ a, hldV v (.mk o1 n1 t1 us1) = a := ⟨_, rfl⟩
  obtain ⟨b, hb⟩ : ∃ b, hldV v (.mk o2 n2 t2 us2) = b := ⟨_, rfl⟩
  have HA := Lib.hid (fun W (h : LgS w p o1 n1 o2 n2 t1 t2 A1 A2 m1 c1 m2 c2 v W) => evHolds_is (hl0 sE (by decide) ha) A1 D m1 c1 W (h.op1 OE.out).1 hn hc hm ht)
  have HB := Lib.hid (fun W (h : LgS w p o1 n1 o2 n2 t1 t2 A1 A2 m1 c1 m2 c2 v W) => evHolds_is (hl0 sF (by decide) hb) A2 D m2 c2 W (h.op2 OF.out).1 hn2 hc2 hm2 ht2)
  have HN := Lib.hid (fun g d W h => lgH1 (v := v) (hl0 (mkS1 sE) (by decide) (hlN.trans (by rw [ha]))) g d W h)
  have HNN := Lib.hid (fun g d W h => lgH1 (v := v) (hl0 (mkS1 (mkS1 sE)) (by decide) (hlN.trans (by rw [hlN, ha, Bool.not_not]))) g d W h)
  have HAND := Lib.hid (fun g d W h => lgH2 (v := v) (hl0 (mkS2 (.inl rfl) sE sF) (by decide) (hlA.trans (by rw [ha, hb]))) g d W h)
  have HOR := Lib.hid (fun g d W h => lgH2 (v := v) (hl0 (mkS2 (.inr rfl) sE sF) (by decide) (hlO.trans (by rw [ha, hb]))) g d W h)
  have HNA := Lib.hid (fun g d W h => lgH1 (v := v) (hl0 (mkS1 (mkS2 (.inl rfl) sE sF)) (by decide) (hlN.trans (by rw [hlA, ha, hb]))) g d W h)
  have HNO := Lib.hid (fun g d W h => lgH1 (v := v) (hl0 (mkS1 (mkS2 (.inr rfl) sE sF)) (by decide) (hlN.trans (by rw [hlO, ha, hb]))) g d W h)
  have HON := Lib.hid (fun g d W h => lgH2 (v := v) (hl0 (mkS2 (.inr rfl) (mkS1 sE) (mkS1 sF)) (by decide) (hlO.trans (by rw [hlN, hlN, ha, hb]))) g d W h)
  have HAN := Lib.hid (fun g d W h => lgH2 (v := v) (hl0 (mkS2 (.inl rfl) (mkS1 sE) (mkS1 sF)) (by decide) (hlA.trans (by rw [hlN, hlN, ha, hb]))) g d W h)
  clear hea heb sE sF ha hb
  go_wp2_with fail
  clear k0 k1 k2 k3 l0 l1 l2 l3 d0 d1 d2 d3 d4 d5 d6 d7 d8
  have STD := Lib.hid ST.out.drew
  obtain ⟨⟨k0, k1, k2, k3⟩, ⟨l0, l1, l2, l3⟩, d0, d1, d2, d3, d4, d5, d6, d7, d8⟩ := ST.out.cells
  first
    | (go_region_held_law (fun w' => (w'.cell? ⟨p, 0, none⟩ = some (.int .i64 o1) ∧ w'.cell? ⟨p, 1, none⟩ = some (.int .i64 n1) ∧ w'.cell? ⟨p, 2, none⟩ = some (.string t1) ∧ w'.cell? ⟨p, 3, none⟩ = some (.slice A1 m1 c1)) ∧ (w'.cell? ⟨p + 1, 0, none⟩ = some (.int .i64 o2) ∧ w'.cell? ⟨p + 1, 1, none⟩ = some (.int .i64 n2) ∧ w'.cell? ⟨p + 1, 2, none⟩ = some (.string t2) ∧ w'.cell? ⟨p + 1, 3, none⟩ = some (.slice A2 m2 c2)) ∧ w'.cell? ⟨p + 1 + 1, 0, none⟩ = some (.int .i64 v.a0) ∧ w'.cell? ⟨p + 1 + 1, 1, none⟩ = some (.int .i64 v.a1) ∧ w'.cell? ⟨p + 1 + 1, 2, none⟩ = some (.int .i64 v.a2) ∧ w'.cell? ⟨p + 1 + 1, 3, none⟩ = some (.int .i64 v.a3) ∧ w'.cell? ⟨p + 1 + 1, 4, none⟩ = some (.int .i64 v.a4) ∧ w'.cell? ⟨p + 1 + 1, 5, none⟩ = some (.int .i64 v.a5) ∧ w'.cell? ⟨p + 1 + 1, 6, none⟩ = some (.string v.zn) ∧ w'.cell? ⟨p + 1 + 1, 7, none⟩ = some (.string v.bn) ∧ w'.cell? ⟨p + 1 + 1, 8, none⟩ = some (.bool v.fm))
        (first | exact ST.out.cells | exact STD.out.cells | go_keep)
        (first
          | (go_at_call 16; (with_reducible refine (HA.out _ STD.out).mono ?_); rintro e wn ⟨rfl, hb⟩; replace ST := Lib.hid (STD.out.keep hb); clear hb)
          | (go_at_call 16; (with_reducible refine (HB.out _ ST.out).mono ?_); rintro e wn ⟨rfl, hb⟩; replace ST := Lib.hid (ST.out.keep hb); clear hb)))
    | fail
  all_goals clear STD HA HB k0 k1 k2 k3 l0 l1 l2 l3 d0 d1 d2 d3 d4 d5 d6 d7 d8
  go_wp2_with fail
  cases a
  all_goals simp only [Bool.not_true, Bool.not_false, Bool.true_and, Bool.false_and, Bool.true_or, Bool.false_or, Bool.not_and, Bool.not_or] at HN HAND HOR HNA HNO HON HAN
  all_goals
    have STD := Lib.hid ST.out.drew
    obtain ⟨⟨k0, k1, k2, k3⟩, ⟨l0, l1, l2, l3⟩, d0, d1, d2, d3, d4, d5, d6, d7, d8⟩ := ST.out.cells
    first
      | (go_region_held_law (fun w' => (w'.cell? ⟨p, 0, none⟩ = some (.int .i64 o1) ∧ w'.cell? ⟨p, 1, none⟩ = some (.int .i64 n1) ∧ w'.cell? ⟨p, 2, none⟩ = some (.string t1) ∧ w'.cell? ⟨p, 3, none⟩ = some (.slice A1 m1 c1)) ∧ (w'.cell? ⟨p + 1, 0, none⟩ = some (.int .i64 o2) ∧ w'.cell? ⟨p + 1, 1, none⟩ = some (.int .i64 n2) ∧ w'.cell? ⟨p + 1, 2, none⟩ = some (.string t2) ∧ w'.cell? ⟨p + 1, 3, none⟩ = some (.slice A2 m2 c2)) ∧ w'.cell? ⟨p + 1 + 1, 0, none⟩ = some (.int .i64 v.a0) ∧ w'.cell? ⟨p + 1 + 1, 1, none⟩ = some (.int .i64 v.a1) ∧ w'.cell? ⟨p + 1 + 1, 2, none⟩ = some (.int .i64 v.a2) ∧ w'.cell? ⟨p + 1 + 1, 3, none⟩ = some (.int .i64 v.a3) ∧ w'.cell? ⟨p + 1 + 1, 4, none⟩ = some (.int .i64 v.a4) ∧ w'.cell? ⟨p + 1 + 1, 5, none⟩ = some (.int .i64 v.a5) ∧ w'.cell? ⟨p + 1 + 1, 6, none⟩ = some (.string v.zn) ∧ w'.cell? ⟨p + 1 + 1, 7, none⟩ = some (.string v.bn) ∧ w'.cell? ⟨p + 1 + 1, 8, none⟩ = some (.bool v.fm))
          (first | exact ST.out.cells | exact STD.out.cells | go_keep)
          (first
            | (go_at_call 21; (with_reducible refine (not_is _ _ _ _ _ _ _ (STD.out.op1 OE.out)).mono ?_); rintro e wn ⟨g1, rfl, hx, hb⟩; replace ST := Lib.hid (STD.out.keep hb); have HX1 := Lib.hid hx; clear hb hx)
            | (go_at_call 16; (with_reducible refine (HN.out _ _ _ HX1.out).mono ?_); rintro e wn ⟨rfl, hb⟩; replace ST := Lib.hid (ST.out.keep hb); clear hb; clear HX1 HN)
            | (go_at_call 21; (with_reducible refine (not_is _ _ _ _ _ _ _ (Op1.one HZ1.out)).mono ?_); rintro e wn ⟨g2, rfl, hx, hb⟩; replace ST := Lib.hid (ST.out.keep hb); have HZ2 := Lib.hid hx; clear hb hx)
            | (go_at_call 16; (with_reducible refine (HNN.out _ _ _ HZ2.out).mono ?_); rintro e wn ⟨rfl, hb⟩; replace ST := Lib.hid (ST.out.keep hb); clear hb; clear HZ1 HZ2 HNN)
            | (go_at_call 19; (with_reducible refine (two_is 5 _ _ _ _ _ _ _ _ _ _ _ _ _ (ST.out.op1 OE.out) (ST.out.op2 OF.out)).mono ?_); rintro e wn ⟨g3, rfl, hx, hb⟩; replace ST := Lib.hid (ST.out.keep hb); have HX3 := Lib.hid hx; clear hb hx)
            | (go_at_call 16; (with_reducible refine (HAND.out _ _ _ HX3.out).mono ?_); rintro e wn ⟨rfl, hb⟩; replace ST := Lib.hid (ST.out.keep hb); clear hb; clear HX3 HAND)
            | (go_at_call 19; (with_reducible refine (two_is 6 _ _ _ _ _ _ _ _ _ _ _ _ _ (ST.out.op1 OE.out) (ST.out.op2 OF.out)).mono ?_); rintro e wn ⟨g4, rfl, hx, hb⟩; replace ST := Lib.hid (ST.out.keep hb); have HX4 := Lib.hid hx; clear hb hx)
            | (go_at_call 16; (with_reducible refine (HOR.out _ _ _ HX4.out).mono ?_); rintro e wn ⟨rfl, hb⟩; replace ST := Lib.hid (ST.out.keep hb); clear hb; clear HX4 HOR)
            | (go_at_call 21; (with_reducible refine (not_is _ _ _ _ _ _ _ (ST.out.op1 OE.out)).mono ?_); rintro e wn ⟨g1, rfl, hx, hb⟩; replace ST := Lib.hid (ST.out.keep hb); have HZ1 := Lib.hid hx; clear hb hx)))
      | fail
    all_goals clear STD  k0 k1 k2 k3 l0 l1 l2 l3 d0 d1 d2 d3 d4 d5 d6 d7 d8
    go_wp2_with fail
    have STD := Lib.hid ST.out.drew
    obtain ⟨⟨k0, k1, k2, k3⟩, ⟨l0, l1, l2, l3⟩, d0, d1, d2, d3, d4, d5, d6, d7, d8⟩ := ST.out.cells
    first
      | (go_region_held_law (fun w' => (w'.cell? ⟨p, 0, none⟩ = some (.int .i64 o1) ∧ w'.cell? ⟨p, 1, none⟩ = some (.int .i64 n1) ∧ w'.cell? ⟨p, 2, none⟩ = some (.string t1) ∧ w'.cell? ⟨p, 3, none⟩ = some (.slice A1 m1 c1)) ∧ (w'.cell? ⟨p + 1, 0, none⟩ = some (.int .i64 o2) ∧ w'.cell? ⟨p + 1, 1, none⟩ = some (.int .i64 n2) ∧ w'.cell? ⟨p + 1, 2, none⟩ = some (.string t2) ∧ w'.cell? ⟨p + 1, 3, none⟩ = some (.slice A2 m2 c2)) ∧ w'.cell? ⟨p + 1 + 1, 0, none⟩ = some (.int .i64 v.a0) ∧ w'.cell? ⟨p + 1 + 1, 1, none⟩ = some (.int .i64 v.a1) ∧ w'.cell? ⟨p + 1 + 1, 2, none⟩ = some (.int .i64 v.a2) ∧ w'.cell? ⟨p + 1 + 1, 3, none⟩ = some (.int .i64 v.a3) ∧ w'.cell? ⟨p + 1 + 1, 4, none⟩ = some (.int .i64 v.a4) ∧ w'.cell? ⟨p + 1 + 1, 5, none⟩ = some (.int .i64 v.a5) ∧ w'.cell? ⟨p + 1 + 1, 6, none⟩ = some (.string v.zn) ∧ w'.cell? ⟨p + 1 + 1, 7, none⟩ = some (.string v.bn) ∧ w'.cell? ⟨p + 1 + 1, 8, none⟩ = some (.bool v.fm))
          (first | exact ST.out.cells | exact STD.out.cells | go_keep)
          (first
            | (go_at_call 19; (with_reducible refine (two_is 5 _ _ _ _ _ _ _ _ _ _ _ _ _ (STD.out.op1 OE.out) (STD.out.op2 OF.out)).mono ?_); rintro e wn ⟨g1, rfl, hx, hb⟩; replace ST := Lib.hid (STD.out.keep hb); have HX1 := Lib.hid hx; clear hb hx)
            | (go_at_call 21; (with_reducible refine (not_is _ _ _ _ _ _ _ (Op1.two HX1.out)).mono ?_); rintro e wn ⟨g2, rfl, hx, hb⟩; replace ST := Lib.hid (ST.out.keep hb); have HX2 := Lib.hid hx; clear hb hx)
            | (go_at_call 16; (with_reducible refine (HNA.out _ _ _ HX2.out).mono ?_); rintro e wn ⟨rfl, hb⟩; replace ST := Lib.hid (ST.out.keep hb); clear hb; clear HX1 HX2 HNA)
            | (go_at_call 19; (with_reducible refine (two_is 6 _ _ _ _ _ _ _ _ _ _ _ _ _ (Op1.one HX3.out) (Op1.one HX4.out)).mono ?_); rintro e wn ⟨g5, rfl, hx, hb⟩; replace ST := Lib.hid (ST.out.keep hb); have HX5 := Lib.hid hx; clear hb hx)
            | (go_at_call 16; (with_reducible refine (HON.out _ _ _ HX5.out).mono ?_); rintro e wn ⟨rfl, hb⟩; replace ST := Lib.hid (ST.out.keep hb); clear hb; clear HX3 HX4 HX5 HON)
            | (go_at_call 21; (with_reducible refine (not_is _ _ _ _ _ _ _ (Op1.two HY1.out)).mono ?_); rintro e wn ⟨g7, rfl, hx, hb⟩; replace ST := Lib.hid (ST.out.keep hb); have HY2 := Lib.hid hx; clear hb hx)
            | (go_at_call 16; (with_reducible refine (HNO.out _ _ _ HY2.out).mono ?_); rintro e wn ⟨rfl, hb⟩; replace ST := Lib.hid (ST.out.keep hb); clear hb; clear HY1 HY2 HNO)
            | (go_at_call 19; (with_reducible refine (two_is 5 _ _ _ _ _ _ _ _ _ _ _ _ _ (Op1.one HX3.out) (Op1.one HX4.out)).mono ?_); rintro e wn ⟨g8, rfl, hx, hb⟩; replace ST := Lib.hid (ST.out.keep hb); have HY5 := Lib.hid hx; clear hb hx)
            | (go_at_call 16; (with_reducible refine (HAN.out _ _ _ HY5.out).mono ?_); rintro e wn ⟨rfl, hb⟩; replace ST := Lib.hid (ST.out.keep hb); clear hb; clear HX3 HX4 HY5 HAN)
            | (go_at_call 19; (with_reducible refine (two_is 6 _ _ _ _ _ _ _ _ _ _ _ _ _ (ST.out.op1 OE.out) (ST.out.op2 OF.out)).mono ?_); rintro e wn ⟨g6, rfl, hx, hb⟩; replace ST := Lib.hid (ST.out.keep hb); have HY1 := Lib.hid hx; clear hb hx)
            | (go_at_call 21; (with_reducible refine (not_is _ _ _ _ _ _ _ (ST.out.op1 OE.out)).mono ?_); rintro e wn ⟨g3, rfl, hx, hb⟩; replace ST := Lib.hid (ST.out.keep hb); have HX3 := Lib.hid hx; clear hb hx)
            | (go_at_call 21; (with_reducible refine (not_is _ _ _ _ _ _ _ (ST.out.op2 OF.out)).mono ?_); rintro e wn ⟨g4, rfl, hx, hb⟩; replace HX3 := Lib.hid (HX3.out.below hb); replace ST := Lib.hid (ST.out.keep hb); have HX4 := Lib.hid hx; clear hb hx)
            | (go_at_call 11; (with_reducible refine (HAW.out _).mono ?_); rintro e wz ⟨rfl, hbz⟩; replace ST := Lib.hid (ST.out.keep hbz); clear hbz)))
      | fail
    all_goals clear STD  k0 k1 k2 k3 l0 l1 l2 l3 d0 d1 d2 d3 d4 d5 d6 d7 d8
    go_wp2_with fail
    go_ret
    exact ⟨rfl, ST.out.1⟩
end Go.Proofs.Ytklpaonhmmfioaa
