/- Walk of the law on sums. -/
import Derived.Test.YtklpaonhmmfioaaEvL2
namespace Go.Proofs.Ytklpaonhmmfioaa
open Go.RowKit Ck Go.Lib

set_option maxRecDepth 100000 in
set_option maxHeartbeats 32000000 in
theorem walkEvalSums (u t : Int) (w : World) : Calls Try.prog 9 #[.int .i64 u, .int .i64 t] w fun e w' => e = .returned (.bool true) ∧ Below w.heap.size w w' := by
  have HNAM := Lib.hid (fun n W => name_is n W)
  have HAW := Lib.hid (fun W => awake_any W)
  by_cases c1 : u < -4611686018427387904
  · have dc1 := decide_eq_true c1
    go_enter Try.func9, Try.ntmps9
    go_wp2_with (go_at_call 11; (with_reducible refine (HAW.out _).mono ?_); rintro e wz ⟨rfl, hbz⟩; have HZ := Lib.hid hbz; clear hbz)
    go_ret
    exact ⟨rfl, HZ.out⟩
  have dc1 := decide_eq_false c1
  by_cases c2 : 4611686018427387904 < u
  · have dc2 := decide_eq_true c2
    go_enter Try.func9, Try.ntmps9
    go_wp2_with (go_at_call 11; (with_reducible refine (HAW.out _).mono ?_); rintro e wz ⟨rfl, hbz⟩; have HZ := Lib.hid hbz; clear hbz)
    go_ret
    exact ⟨rfl, HZ.out⟩
  have dc2 := decide_eq_false c2
  by_cases c3 : t < -4611686018427387904
  · have dc3 := decide_eq_true c3
    go_enter Try.func9, Try.ntmps9
    go_wp2_with (go_at_call 11; (with_reducible refine (HAW.out _).mono ?_); rintro e wz ⟨rfl, hbz⟩; have HZ := Lib.hid hbz; clear hbz)
    go_ret
    exact ⟨rfl, HZ.out⟩
  have dc3 := decide_eq_false c3
  by_cases c4 : 4611686018427387904 < t
  · have dc4 := decide_eq_true c4
    go_enter Try.func9, Try.ntmps9
    go_wp2_with (go_at_call 11; (with_reducible refine (HAW.out _).mono ?_); rintro e wz ⟨rfl, hbz⟩; have HZ := Lib.hid hbz; clear hbz)
    go_ret
    exact ⟨rfl, HZ.out⟩
  have dc4 := decide_eq_false c4
  have hu : -4611686018427387904 ≤ u ∧ u ≤ 4611686018427387904 := by omega
  have ht : -4611686018427387904 ≤ t ∧ t ≤ 4611686018427387904 := by omega
  obtain ⟨n, x, hn⟩ := OV.ex (numR (envU u t) (e2 11 aU aT))
  obtain ⟨m, y, hm⟩ := OV.ex (numR (envU u t) (e2 11 aT aU))
  obtain ⟨k, z, hk⟩ := OV.ex (numR (envU u t) (e2 12 (e2 11 aU aT) aT))
  have HV1 := Lib.hid (fun g d W h => utN hn g d W h)
  have HV2 := Lib.hid (fun g d W h => utN hm g d W h)
  have HV3 := Lib.hid (fun g d W h => utN hk g d W h)
  rw [ut_num st1.2.2.1, ut_two _ (by decide), ut_u, ut_t, nb_in hu, nb_in ht] at hn
  rw [ut_num st1.2.2.2.1, ut_two _ (by decide), ut_u, ut_t, nb_in hu, nb_in ht] at hm
  rw [ut_num st1.2.2.2.2.1, ut_two _ (by decide), ut_two _ (by decide), ut_u, ut_t, nb_in hu, nb_in ht] at hk
  have hn : OV (opN 11 u t) n x := hn
  have hm : OV (opN 11 t u) m y := hm
  have hk : OV (opO 12 (opN 11 u t) (some t)) k z := hk
  rw [opN_add] at hn hm hk
  rw [show t + u = u + t by omega] at hm
  obtain ⟨a2, ha2⟩ : ∃ a, u.tdiv 2 = a := ⟨_, rfl⟩
  obtain ⟨b2, hb2⟩ : ∃ b, t.tdiv 2 = b := ⟨_, rfl⟩
  have ta : (a2 * 2 ≤ u ∧ u ≤ a2 * 2 + 1 ∧ 0 ≤ u) ∨ (u ≤ a2 * 2 ∧ a2 * 2 ≤ u + 1 ∧ u ≤ 0) := by
    have h1 := Int.mul_tdiv_add_tmod u 2
    have h2 := tmod_sign (u := u) (t := 2)
    have h3 := tmod_small (u := u) (t := 2) (by decide)
    rcases Int.le_total 0 u with h | h
    · have := h2.1 h; left; omega
    · have := h2.2 h; right; omega
  have tb : (b2 * 2 ≤ t ∧ t ≤ b2 * 2 + 1 ∧ 0 ≤ t) ∨ (t ≤ b2 * 2 ∧ b2 * 2 ≤ t + 1 ∧ t ≤ 0) := by
    have h1 := Int.mul_tdiv_add_tmod t 2
    have h2 := tmod_sign (u := t) (t := 2)
    have h3 := tmod_small (u := t) (t := 2) (by decide)
    rcases Int.le_total 0 t with h | h
    · have := h2.1 h; left; omega
    · have := h2.2 h; right; omega
  have qa1 : -2305843009213693952 ≤ a2 := by omega
  have qa2 : a2 ≤ 2305843009213693952 := by omega
  have qb1 : -2305843009213693952 ≤ b2 := by omega
  have qb2 : b2 ≤ 2305843009213693952 := by omega
  have HT := Lib.hid (show _ ∧ _ from ⟨ta, tb⟩)
  clear ta tb
  go_enter Try.func9, Try.ntmps9
  by_cases fit : -4611686018427387904 ≤ u + t ∧ u + t ≤ 4611686018427387904
  · rw [nb_in fit] at hn hm hk
    have hk : OV (opN 12 (u + t) t) k z := hk
    rw [opN_sub, show u + t + -t = u by omega, nb_in hu] at hk
    obtain ⟨hn1, rfl⟩ : n = u + t ∧ x = true := ⟨hn.1, hn.2⟩
    obtain ⟨hm1, rfl⟩ : m = u + t ∧ y = true := ⟨hm.1, hm.2⟩
    obtain ⟨rfl, rfl⟩ : u = k ∧ z = true := ⟨hk.1.symm, hk.2⟩
    obtain rfl : m = n := hm1.trans hn1.symm
    have f1 : decide (a2 + b2 ≤ 2305843009213693953) = true := by have := HT.out; simp; omega
    have f2 : decide (-2305843009213693953 ≤ a2 + b2) = true := by have := HT.out; simp; omega
    clear hn hm hk hn1 hm1 fit hu ht c1 c2 c3 c4
    go_upto_region 4 with fail
    obtain ⟨p5, hp5⟩ : ∃ p, w.heap.size = p := ⟨_, rfl⟩
    have HE : Hid (UtE w u t p5 (w.alloc (.cells #[.int .i64 0, .int .i64 u, .int .i64 0, .int .i64 0, .int .i64 t, .int .i64 0, .string ⟨#[]⟩, .string ⟨#[]⟩, .bool false] 26))) := Lib.hid ⟨below_one w _, hp5 ▸ Blk.new w _ _⟩
    generalize w.alloc (.cells #[.int .i64 0, .int .i64 u, .int .i64 0, .int .i64 0, .int .i64 t, .int .i64 0, .string ⟨#[]⟩, .string ⟨#[]⟩, .bool false] 26) = L0 at HE ⊢
    rw [hp5]
    clear hp5
    go_upto_region 5 with (go_at_call 18; (with_reducible refine (HNAM.out _ _).mono ?_); rintro e wn ⟨rfl, hb⟩; replace HE := Lib.hid (UtE.keep HE.out hb); clear hb)
    have hst := UtS.of HE.out.1 HE.out.2
    obtain ⟨p6, hp⟩ : ∃ p, wn.heap.size = p := ⟨_, rfl⟩
    rw [hp] at hst ⊢
    generalize (wn.alloc (.cells #[.int .i64 3, .int .i64 0, .string ⟨#[117, 110, 105, 116, 115]⟩, .slice none 0 0] 24)).alloc (.cells #[.int .i64 3, .int .i64 0, .string ⟨#[116, 111, 116, 97, 108]⟩, .slice none 0 0] 24) = L1 at hst ⊢
    have ST := Lib.hid hst
    clear hst hp HE HNAM
    have STD := Lib.hid ST.out.drew
    obtain ⟨⟨k0, k1, k2, k3, k4, k5, k6, k7, k8⟩, ⟨l0, l1, l2, l3⟩, m0, m1, m2, m3⟩ := ST.out.cells
    go_region_held3 (fun w' => (w'.cell? ⟨p5, 0, none⟩ = some (.int .i64 0) ∧ w'.cell? ⟨p5, 1, none⟩ = some (.int .i64 u) ∧ w'.cell? ⟨p5, 2, none⟩ = some (.int .i64 0) ∧ w'.cell? ⟨p5, 3, none⟩ = some (.int .i64 0) ∧ w'.cell? ⟨p5, 4, none⟩ = some (.int .i64 t) ∧ w'.cell? ⟨p5, 5, none⟩ = some (.int .i64 0) ∧ w'.cell? ⟨p5, 6, none⟩ = some (.string ⟨#[]⟩) ∧ w'.cell? ⟨p5, 7, none⟩ = some (.string ⟨#[]⟩) ∧ w'.cell? ⟨p5, 8, none⟩ = some (.bool false)) ∧ (w'.cell? ⟨p6, 0, none⟩ = some (.int .i64 3) ∧ w'.cell? ⟨p6, 1, none⟩ = some (.int .i64 0) ∧ w'.cell? ⟨p6, 2, none⟩ = some (.string ⟨#[117, 110, 105, 116, 115]⟩) ∧ w'.cell? ⟨p6, 3, none⟩ = some (.slice none 0 0)) ∧ w'.cell? ⟨p6 + 1, 0, none⟩ = some (.int .i64 3) ∧ w'.cell? ⟨p6 + 1, 1, none⟩ = some (.int .i64 0) ∧ w'.cell? ⟨p6 + 1, 2, none⟩ = some (.string ⟨#[116, 111, 116, 97, 108]⟩) ∧ w'.cell? ⟨p6 + 1, 3, none⟩ = some (.slice none 0 0))
      (first | exact ST.out.cells | exact STD.out.cells | go_keep)
      (first
        | (go_at_call 19; (with_reducible refine (two_is 11 _ _ _ _ _ _ _ _ _ _ _ _ _ (Op1.leaf _ 0 _ (by decide)) (Op1.leaf _ 0 _ (by decide))).mono ?_); rintro e wn ⟨g1, rfl, hx, hb⟩; replace ST := Lib.hid (STD.out.keep hb); have HXA := Lib.hid hx; clear hb hx)
        | (go_at_call 12; (with_reducible refine (HV1.out _ 1 _ HXA.out).mono ?_); rintro e wn ⟨rfl, hb⟩; replace ST := Lib.hid (ST.out.keep hb); clear hb))
    clear STD HXA HV1 k0 k1 k2 k3 k4 k5 k6 k7 k8 l0 l1 l2 l3 m0 m1 m2 m3
    go_wp2_with fail
    have STD := Lib.hid ST.out.drew
    obtain ⟨⟨k0, k1, k2, k3, k4, k5, k6, k7, k8⟩, ⟨l0, l1, l2, l3⟩, m0, m1, m2, m3⟩ := ST.out.cells
    go_region_held3 (fun w' => (w'.cell? ⟨p5, 0, none⟩ = some (.int .i64 0) ∧ w'.cell? ⟨p5, 1, none⟩ = some (.int .i64 u) ∧ w'.cell? ⟨p5, 2, none⟩ = some (.int .i64 0) ∧ w'.cell? ⟨p5, 3, none⟩ = some (.int .i64 0) ∧ w'.cell? ⟨p5, 4, none⟩ = some (.int .i64 t) ∧ w'.cell? ⟨p5, 5, none⟩ = some (.int .i64 0) ∧ w'.cell? ⟨p5, 6, none⟩ = some (.string ⟨#[]⟩) ∧ w'.cell? ⟨p5, 7, none⟩ = some (.string ⟨#[]⟩) ∧ w'.cell? ⟨p5, 8, none⟩ = some (.bool false)) ∧ (w'.cell? ⟨p6, 0, none⟩ = some (.int .i64 3) ∧ w'.cell? ⟨p6, 1, none⟩ = some (.int .i64 0) ∧ w'.cell? ⟨p6, 2, none⟩ = some (.string ⟨#[117, 110, 105, 116, 115]⟩) ∧ w'.cell? ⟨p6, 3, none⟩ = some (.slice none 0 0)) ∧ w'.cell? ⟨p6 + 1, 0, none⟩ = some (.int .i64 3) ∧ w'.cell? ⟨p6 + 1, 1, none⟩ = some (.int .i64 0) ∧ w'.cell? ⟨p6 + 1, 2, none⟩ = some (.string ⟨#[116, 111, 116, 97, 108]⟩) ∧ w'.cell? ⟨p6 + 1, 3, none⟩ = some (.slice none 0 0))
      (first | exact ST.out.cells | exact STD.out.cells | go_keep)
      (first
        | (go_at_call 19; (with_reducible refine (two_is 11 _ _ _ _ _ _ _ _ _ _ _ _ _ (Op1.leaf _ 0 _ (by decide)) (Op1.leaf _ 0 _ (by decide))).mono ?_); rintro e wn ⟨g1, rfl, hx, hb⟩; replace ST := Lib.hid (STD.out.keep hb); have HXA := Lib.hid hx; clear hb hx)
        | (go_at_call 12; (with_reducible refine (HV2.out _ 1 _ HXA.out).mono ?_); rintro e wn ⟨rfl, hb⟩; replace ST := Lib.hid (ST.out.keep hb); clear hb))
    clear STD HXA HV2 k0 k1 k2 k3 k4 k5 k6 k7 k8 l0 l1 l2 l3 m0 m1 m2 m3
    go_wp2_with fail
    have STD := Lib.hid ST.out.drew
    obtain ⟨⟨k0, k1, k2, k3, k4, k5, k6, k7, k8⟩, ⟨l0, l1, l2, l3⟩, m0, m1, m2, m3⟩ := ST.out.cells
    go_region_held3 (fun w' => (w'.cell? ⟨p5, 0, none⟩ = some (.int .i64 0) ∧ w'.cell? ⟨p5, 1, none⟩ = some (.int .i64 u) ∧ w'.cell? ⟨p5, 2, none⟩ = some (.int .i64 0) ∧ w'.cell? ⟨p5, 3, none⟩ = some (.int .i64 0) ∧ w'.cell? ⟨p5, 4, none⟩ = some (.int .i64 t) ∧ w'.cell? ⟨p5, 5, none⟩ = some (.int .i64 0) ∧ w'.cell? ⟨p5, 6, none⟩ = some (.string ⟨#[]⟩) ∧ w'.cell? ⟨p5, 7, none⟩ = some (.string ⟨#[]⟩) ∧ w'.cell? ⟨p5, 8, none⟩ = some (.bool false)) ∧ (w'.cell? ⟨p6, 0, none⟩ = some (.int .i64 3) ∧ w'.cell? ⟨p6, 1, none⟩ = some (.int .i64 0) ∧ w'.cell? ⟨p6, 2, none⟩ = some (.string ⟨#[117, 110, 105, 116, 115]⟩) ∧ w'.cell? ⟨p6, 3, none⟩ = some (.slice none 0 0)) ∧ w'.cell? ⟨p6 + 1, 0, none⟩ = some (.int .i64 3) ∧ w'.cell? ⟨p6 + 1, 1, none⟩ = some (.int .i64 0) ∧ w'.cell? ⟨p6 + 1, 2, none⟩ = some (.string ⟨#[116, 111, 116, 97, 108]⟩) ∧ w'.cell? ⟨p6 + 1, 3, none⟩ = some (.slice none 0 0))
      (first | exact ST.out.cells | exact STD.out.cells | go_keep)
      (first
        | (go_at_call 19; (with_reducible refine (two_is 11 _ _ _ _ _ _ _ _ _ _ _ _ _ (Op1.leaf _ 0 _ (by decide)) (Op1.leaf _ 0 _ (by decide))).mono ?_); rintro e wn ⟨g1, rfl, hx, hb⟩; replace ST := Lib.hid (STD.out.keep hb); have HXA := Lib.hid hx; clear hb hx)
        | (go_at_call 19; (with_reducible refine (two_is 12 _ _ _ _ _ _ _ _ _ _ _ _ _ (Op1.two HXA.out) (Op1.leaf _ 1 _ (by decide))).mono ?_); rintro e wn ⟨g2, rfl, hx, hb⟩; replace ST := Lib.hid (ST.out.keep hb); have HXB := Lib.hid hx; clear hb hx)
        | (go_at_call 12; (with_reducible refine (HV3.out _ 2 _ HXB.out).mono ?_); rintro e wn ⟨rfl, hb⟩; replace ST := Lib.hid (ST.out.keep hb); clear hb))
    clear STD HXA HXB HV3 k0 k1 k2 k3 k4 k5 k6 k7 k8 l0 l1 l2 l3 m0 m1 m2 m3
    go_wp2_with (go_at_call 11; (with_reducible refine (HAW.out _).mono ?_); rintro e wz ⟨rfl, hbz⟩; have HZ := Lib.hid (ST.out.keep hbz); clear hbz)
    go_ret
    exact ⟨by simp, HZ.out.1⟩
  · have hno : nb (u + t) = none := nb_out (by omega)
    rw [hno] at hn hm hk
    rw [opO_left] at hk
    obtain ⟨rfl, rfl⟩ : n = 0 ∧ x = false := ⟨hn.1, hn.2⟩
    obtain ⟨rfl, rfl⟩ : m = 0 ∧ y = false := ⟨hm.1, hm.2⟩
    obtain ⟨rfl, rfl⟩ : k = 0 ∧ z = false := ⟨hk.1, hk.2⟩
    clear hn hm hk hno
    obtain ⟨v1, f1⟩ : ∃ v, decide (a2 + b2 ≤ 2305843009213693953) = v := ⟨_, rfl⟩
    obtain ⟨v2, f2⟩ : ∃ v, decide (-2305843009213693953 ≤ a2 + b2) = v := ⟨_, rfl⟩
    have hs : (0 < u ∧ 0 < t ∧ 2305843009213693952 ≤ u) ∨ (0 < u ∧ 0 < t ∧ ¬ 2305843009213693952 ≤ u ∧ 2305843009213693952 ≤ t) ∨ (u < 0 ∧ t < 0 ∧ u ≤ -2305843009213693952) ∨ (u < 0 ∧ t < 0 ∧ ¬ u ≤ -2305843009213693952 ∧ t ≤ -2305843009213693952) := by omega
    have g0 : decide (0 < u) = decide (0 < t) := by
      rcases hs with h | h | h | h
      · rw [decide_eq_true h.1, decide_eq_true h.2.1]
      · rw [decide_eq_true h.1, decide_eq_true h.2.1]
      · rw [decide_eq_false (by omega), decide_eq_false (by omega)]
      · rw [decide_eq_false (by omega), decide_eq_false (by omega)]
    obtain ⟨b0, g1⟩ : ∃ b, decide (0 < t) = b := ⟨_, rfl⟩
    rw [g1] at g0
    obtain ⟨x1, h1⟩ : ∃ b, decide (2305843009213693952 ≤ u) = b := ⟨_, rfl⟩
    obtain ⟨x2, h2⟩ : ∃ b, decide (2305843009213693952 ≤ t) = b := ⟨_, rfl⟩
    obtain ⟨x3, h3⟩ : ∃ b, decide (u ≤ -2305843009213693952) = b := ⟨_, rfl⟩
    obtain ⟨x4, h4⟩ : ∃ b, decide (t ≤ -2305843009213693952) = b := ⟨_, rfl⟩
    have hx : x1 = true ∨ x1 = false ∧ x2 = true ∨ x1 = false ∧ x2 = false ∧ x3 = true ∨ x1 = false ∧ x2 = false ∧ x3 = false ∧ x4 = true := by
      rw [← h1, ← h2, ← h3, ← h4]; simp only [decide_eq_true_eq, decide_eq_false_iff_not]; omega
    clear hs fit hu ht c1 c2 c3 c4 HT
    go_upto_region 4 with fail
    obtain ⟨p5, hp5⟩ : ∃ p, w.heap.size = p := ⟨_, rfl⟩
    have HE : Hid (UtE w u t p5 (w.alloc (.cells #[.int .i64 0, .int .i64 u, .int .i64 0, .int .i64 0, .int .i64 t, .int .i64 0, .string ⟨#[]⟩, .string ⟨#[]⟩, .bool false] 26))) := Lib.hid ⟨below_one w _, hp5 ▸ Blk.new w _ _⟩
    generalize w.alloc (.cells #[.int .i64 0, .int .i64 u, .int .i64 0, .int .i64 0, .int .i64 t, .int .i64 0, .string ⟨#[]⟩, .string ⟨#[]⟩, .bool false] 26) = L0 at HE ⊢
    rw [hp5]
    clear hp5
    go_upto_region 5 with (go_at_call 18; (with_reducible refine (HNAM.out _ _).mono ?_); rintro e wn ⟨rfl, hb⟩; replace HE := Lib.hid (UtE.keep HE.out hb); clear hb)
    have hst := UtS.of HE.out.1 HE.out.2
    obtain ⟨p6, hp⟩ : ∃ p, wn.heap.size = p := ⟨_, rfl⟩
    rw [hp] at hst ⊢
    generalize (wn.alloc (.cells #[.int .i64 3, .int .i64 0, .string ⟨#[117, 110, 105, 116, 115]⟩, .slice none 0 0] 24)).alloc (.cells #[.int .i64 3, .int .i64 0, .string ⟨#[116, 111, 116, 97, 108]⟩, .slice none 0 0] 24) = L1 at hst ⊢
    have ST := Lib.hid hst
    clear hst hp HE HNAM
    have STD := Lib.hid ST.out.drew
    obtain ⟨⟨k0, k1, k2, k3, k4, k5, k6, k7, k8⟩, ⟨l0, l1, l2, l3⟩, m0, m1, m2, m3⟩ := ST.out.cells
    go_region_held3 (fun w' => (w'.cell? ⟨p5, 0, none⟩ = some (.int .i64 0) ∧ w'.cell? ⟨p5, 1, none⟩ = some (.int .i64 u) ∧ w'.cell? ⟨p5, 2, none⟩ = some (.int .i64 0) ∧ w'.cell? ⟨p5, 3, none⟩ = some (.int .i64 0) ∧ w'.cell? ⟨p5, 4, none⟩ = some (.int .i64 t) ∧ w'.cell? ⟨p5, 5, none⟩ = some (.int .i64 0) ∧ w'.cell? ⟨p5, 6, none⟩ = some (.string ⟨#[]⟩) ∧ w'.cell? ⟨p5, 7, none⟩ = some (.string ⟨#[]⟩) ∧ w'.cell? ⟨p5, 8, none⟩ = some (.bool false)) ∧ (w'.cell? ⟨p6, 0, none⟩ = some (.int .i64 3) ∧ w'.cell? ⟨p6, 1, none⟩ = some (.int .i64 0) ∧ w'.cell? ⟨p6, 2, none⟩ = some (.string ⟨#[117, 110, 105, 116, 115]⟩) ∧ w'.cell? ⟨p6, 3, none⟩ = some (.slice none 0 0)) ∧ w'.cell? ⟨p6 + 1, 0, none⟩ = some (.int .i64 3) ∧ w'.cell? ⟨p6 + 1, 1, none⟩ = some (.int .i64 0) ∧ w'.cell? ⟨p6 + 1, 2, none⟩ = some (.string ⟨#[116, 111, 116, 97, 108]⟩) ∧ w'.cell? ⟨p6 + 1, 3, none⟩ = some (.slice none 0 0))
      (first | exact ST.out.cells | exact STD.out.cells | go_keep)
      (first
        | (go_at_call 19; (with_reducible refine (two_is 11 _ _ _ _ _ _ _ _ _ _ _ _ _ (Op1.leaf _ 0 _ (by decide)) (Op1.leaf _ 0 _ (by decide))).mono ?_); rintro e wn ⟨g1, rfl, hx, hb⟩; replace ST := Lib.hid (STD.out.keep hb); have HXA := Lib.hid hx; clear hb hx)
        | (go_at_call 12; (with_reducible refine (HV1.out _ 1 _ HXA.out).mono ?_); rintro e wn ⟨rfl, hb⟩; replace ST := Lib.hid (ST.out.keep hb); clear hb))
    clear STD HXA HV1 k0 k1 k2 k3 k4 k5 k6 k7 k8 l0 l1 l2 l3 m0 m1 m2 m3
    go_wp2_with fail
    have STD := Lib.hid ST.out.drew
    obtain ⟨⟨k0, k1, k2, k3, k4, k5, k6, k7, k8⟩, ⟨l0, l1, l2, l3⟩, m0, m1, m2, m3⟩ := ST.out.cells
    go_region_held3 (fun w' => (w'.cell? ⟨p5, 0, none⟩ = some (.int .i64 0) ∧ w'.cell? ⟨p5, 1, none⟩ = some (.int .i64 u) ∧ w'.cell? ⟨p5, 2, none⟩ = some (.int .i64 0) ∧ w'.cell? ⟨p5, 3, none⟩ = some (.int .i64 0) ∧ w'.cell? ⟨p5, 4, none⟩ = some (.int .i64 t) ∧ w'.cell? ⟨p5, 5, none⟩ = some (.int .i64 0) ∧ w'.cell? ⟨p5, 6, none⟩ = some (.string ⟨#[]⟩) ∧ w'.cell? ⟨p5, 7, none⟩ = some (.string ⟨#[]⟩) ∧ w'.cell? ⟨p5, 8, none⟩ = some (.bool false)) ∧ (w'.cell? ⟨p6, 0, none⟩ = some (.int .i64 3) ∧ w'.cell? ⟨p6, 1, none⟩ = some (.int .i64 0) ∧ w'.cell? ⟨p6, 2, none⟩ = some (.string ⟨#[117, 110, 105, 116, 115]⟩) ∧ w'.cell? ⟨p6, 3, none⟩ = some (.slice none 0 0)) ∧ w'.cell? ⟨p6 + 1, 0, none⟩ = some (.int .i64 3) ∧ w'.cell? ⟨p6 + 1, 1, none⟩ = some (.int .i64 0) ∧ w'.cell? ⟨p6 + 1, 2, none⟩ = some (.string ⟨#[116, 111, 116, 97, 108]⟩) ∧ w'.cell? ⟨p6 + 1, 3, none⟩ = some (.slice none 0 0))
      (first | exact ST.out.cells | exact STD.out.cells | go_keep)
      (first
        | (go_at_call 19; (with_reducible refine (two_is 11 _ _ _ _ _ _ _ _ _ _ _ _ _ (Op1.leaf _ 0 _ (by decide)) (Op1.leaf _ 0 _ (by decide))).mono ?_); rintro e wn ⟨g1, rfl, hx, hb⟩; replace ST := Lib.hid (STD.out.keep hb); have HXA := Lib.hid hx; clear hb hx)
        | (go_at_call 12; (with_reducible refine (HV2.out _ 1 _ HXA.out).mono ?_); rintro e wn ⟨rfl, hb⟩; replace ST := Lib.hid (ST.out.keep hb); clear hb))
    clear STD HXA HV2 k0 k1 k2 k3 k4 k5 k6 k7 k8 l0 l1 l2 l3 m0 m1 m2 m3
    go_wp2_with fail
    have STD := Lib.hid ST.out.drew
    obtain ⟨⟨k0, k1, k2, k3, k4, k5, k6, k7, k8⟩, ⟨l0, l1, l2, l3⟩, m0, m1, m2, m3⟩ := ST.out.cells
    go_region_held3 (fun w' => (w'.cell? ⟨p5, 0, none⟩ = some (.int .i64 0) ∧ w'.cell? ⟨p5, 1, none⟩ = some (.int .i64 u) ∧ w'.cell? ⟨p5, 2, none⟩ = some (.int .i64 0) ∧ w'.cell? ⟨p5, 3, none⟩ = some (.int .i64 0) ∧ w'.cell? ⟨p5, 4, none⟩ = some (.int .i64 t) ∧ w'.cell? ⟨p5, 5, none⟩ = some (.int .i64 0) ∧ w'.cell? ⟨p5, 6, none⟩ = some (.string ⟨#[]⟩) ∧ w'.cell? ⟨p5, 7, none⟩ = some (.string ⟨#[]⟩) ∧ w'.cell? ⟨p5, 8, none⟩ = some (.bool false)) ∧ (w'.cell? ⟨p6, 0, none⟩ = some (.int .i64 3) ∧ w'.cell? ⟨p6, 1, none⟩ = some (.int .i64 0) ∧ w'.cell? ⟨p6, 2, none⟩ = some (.string ⟨#[117, 110, 105, 116, 115]⟩) ∧ w'.cell? ⟨p6, 3, none⟩ = some (.slice none 0 0)) ∧ w'.cell? ⟨p6 + 1, 0, none⟩ = some (.int .i64 3) ∧ w'.cell? ⟨p6 + 1, 1, none⟩ = some (.int .i64 0) ∧ w'.cell? ⟨p6 + 1, 2, none⟩ = some (.string ⟨#[116, 111, 116, 97, 108]⟩) ∧ w'.cell? ⟨p6 + 1, 3, none⟩ = some (.slice none 0 0))
      (first | exact ST.out.cells | exact STD.out.cells | go_keep)
      (first
        | (go_at_call 19; (with_reducible refine (two_is 11 _ _ _ _ _ _ _ _ _ _ _ _ _ (Op1.leaf _ 0 _ (by decide)) (Op1.leaf _ 0 _ (by decide))).mono ?_); rintro e wn ⟨g1, rfl, hx, hb⟩; replace ST := Lib.hid (STD.out.keep hb); have HXA := Lib.hid hx; clear hb hx)
        | (go_at_call 19; (with_reducible refine (two_is 12 _ _ _ _ _ _ _ _ _ _ _ _ _ (Op1.two HXA.out) (Op1.leaf _ 1 _ (by decide))).mono ?_); rintro e wn ⟨g2, rfl, hx, hb⟩; replace ST := Lib.hid (ST.out.keep hb); have HXB := Lib.hid hx; clear hb hx)
        | (go_at_call 12; (with_reducible refine (HV3.out _ 2 _ HXB.out).mono ?_); rintro e wn ⟨rfl, hb⟩; replace ST := Lib.hid (ST.out.keep hb); clear hb))
    clear STD HXA HXB HV3 k0 k1 k2 k3 k4 k5 k6 k7 k8 l0 l1 l2 l3 m0 m1 m2 m3
    cases v1 <;> cases v2
    all_goals
      rcases hx with rfl | ⟨rfl, rfl⟩ | ⟨rfl, rfl, rfl⟩ | ⟨rfl, rfl, rfl, rfl⟩
    all_goals
      go_wp2_with (go_at_call 11; (with_reducible refine (HAW.out _).mono ?_); rintro e wz ⟨rfl, hbz⟩; have HZ := Lib.hid (ST.out.keep hbz); clear hbz)
      go_ret
      exact ⟨by simp, HZ.out.1⟩
end Go.Proofs.Ytklpaonhmmfioaa
