/- Walk of the law on the order of numbers. -/
import Derived.Test.YtklpaonhmmfioaaEvL2
namespace Go.Proofs.Ytklpaonhmmfioaa
open Go.RowKit Ck Go.Lib

set_option maxRecDepth 100000 in
set_option maxHeartbeats 32000000 in
theorem walkEvalOrders (u t : Int) (w : World) : Calls Try.prog 7 #[.int .i64 u, .int .i64 t] w fun e w' => e = .returned (.bool true) ∧ Below w.heap.size w w' := by
  obtain ⟨b1, h1⟩ : ∃ z, hldR (envU u t) (e2 9 aU aT) = z := ⟨_, rfl⟩
  obtain ⟨b2, h2⟩ : ∃ z, hldR (envU u t) (e2 9 aT aU) = z := ⟨_, rfl⟩
  obtain ⟨b3, h3⟩ : ∃ z, hldR (envU u t) (e2 7 aU aT) = z := ⟨_, rfl⟩
  obtain ⟨b4, h4⟩ : ∃ z, hldR (envU u t) (e2 8 aU aT) = z := ⟨_, rfl⟩
  obtain ⟨b5, h5⟩ : ∃ z, hldR (envU u t) (e2 10 aU aT) = z := ⟨_, rfl⟩
  obtain ⟨b6, h6⟩ : ∃ z, hldR (envU u t) (e2 10 aT aU) = z := ⟨_, rfl⟩
  have HV1 := Lib.hid (fun g d W h => utH h1 g d W h)
  have HV2 := Lib.hid (fun g d W h => utH h2 g d W h)
  have HV3 := Lib.hid (fun g d W h => utH h3 g d W h)
  have HV4 := Lib.hid (fun g d W h => utH h4 g d W h)
  have HV5 := Lib.hid (fun g d W h => utH h5 g d W h)
  have HV6 := Lib.hid (fun g d W h => utH h6 g d W h)
  have HNAM := Lib.hid (fun n W => name_is n W)
  have HAW := Lib.hid (fun W => awake_any W)
  rw [ut_hld st9.1 (by decide) tx_no.1, ut_u, ut_t] at h1
  rw [ut_hld st9.2.1 (by decide) tx_no.2, ut_u, ut_t] at h2
  rw [ut_hld st9.2.2.1 (by decide) tx_no.1, ut_u, ut_t] at h3
  rw [ut_hld st9.2.2.2.1 (by decide) tx_no.1, ut_u, ut_t] at h4
  rw [ut_hld st9.2.2.2.2.1 (by decide) tx_no.1, ut_u, ut_t] at h5
  rw [ut_hld st9.2.2.2.2.2 (by decide) tx_no.2, ut_u, ut_t] at h6
  have HH := Lib.hid (show _ ∧ _ ∧ _ ∧ _ ∧ _ ∧ _ from ⟨h1, h2, h3, h4, h5, h6⟩)
  clear h1 h2 h3 h4 h5 h6
  go_enter Try.func7, Try.ntmps7
  go_upto_region 2 with fail
  obtain ⟨p5, hp5⟩ : ∃ p, w.heap.size = p := ⟨_, rfl⟩
  have HE : Hid (UtE w u t p5 (w.alloc (.cells #[.int .i64 0, .int .i64 u, .int .i64 0, .int .i64 0, .int .i64 t, .int .i64 0, .string ⟨#[]⟩, .string ⟨#[]⟩, .bool false] 26))) := Lib.hid ⟨below_one w _, hp5 ▸ Blk.new w _ _⟩
  generalize w.alloc (.cells #[.int .i64 0, .int .i64 u, .int .i64 0, .int .i64 0, .int .i64 t, .int .i64 0, .string ⟨#[]⟩, .string ⟨#[]⟩, .bool false] 26) = L0 at HE ⊢
  rw [hp5]
  clear hp5
  go_upto_region 3 with (go_at_call 18; (with_reducible refine (HNAM.out _ _).mono ?_); rintro e wn ⟨rfl, hb⟩; replace HE := Lib.hid (UtE.keep HE.out hb); clear hb)
  have hst := UtS.of HE.out.1 HE.out.2
  obtain ⟨p6, hp⟩ : ∃ p, wn.heap.size = p := ⟨_, rfl⟩
  rw [hp] at hst ⊢
  generalize (wn.alloc (.cells #[.int .i64 3, .int .i64 0, .string ⟨#[117, 110, 105, 116, 115]⟩, .slice none 0 0] 24)).alloc (.cells #[.int .i64 3, .int .i64 0, .string ⟨#[116, 111, 116, 97, 108]⟩, .slice none 0 0] 24) = L1 at hst ⊢
  have ST := Lib.hid hst
  clear hst hp HE HNAM
  have STD := Lib.hid ST.out.drew
  obtain ⟨⟨k0, k1, k2, k3, k4, k5, k6, k7, k8⟩, ⟨l0, l1, l2, l3⟩, m0, m1, m2, m3⟩ := ST.out.cells
  go_region_held3 (fun w' => (w'.cell? ⟨p5, 0, none⟩ = some (.int .i64 0) ∧ w'.cell? ⟨p5, 1, none⟩ = some (.int .i64 u) ∧ w'.cell? ⟨p5, 2, none⟩ = some (.int .i64 0) ∧ w'.cell? ⟨p5, 3, none⟩ = some (.int .i64 0) ∧ w'.cell? ⟨p5, 4, none⟩ = some (.int .i64 t) ∧ w'.cell? ⟨p5, 5, none⟩ = some (.int .i64 0) ∧ w'.cell? ⟨p5, 6, none⟩ = some (.string ⟨#[]⟩) ∧ w'.cell? ⟨p5, 7, none⟩ = some (.string ⟨#[]⟩) ∧ w'.cell? ⟨p5, 8, none⟩ = some (.bool false)) ∧ (w'.cell? ⟨p6, 0, none⟩ = some (.int .i64 3) ∧ w'.cell? ⟨p6, 1, none⟩ = some (.int .i64 0) ∧ w'.cell? ⟨p6, 2, none⟩ = some (.string ⟨#[117, 110, 105, 116, 115]⟩) ∧ w'.cell? ⟨p6, 3, none⟩ = some (.slice none 0 0)) ∧ w'.cell? ⟨p6 + 1, 0, none⟩ = some (.int .i64 3) ∧ w'.cell? ⟨p6 + 1, 1, none⟩ = some (.int .i64 0) ∧ w'.cell? ⟨p6 + 1, 2, none⟩ = some (.string ⟨#[116, 111, 116, 97, 108]⟩) ∧ w'.cell? ⟨p6 + 1, 3, none⟩ = some (.slice none 0 0))
    (first | exact ST.out.cells | exact STD.out.cells | go_keep)
    (first
      | (go_at_call 19; (with_reducible refine (two_is 9 _ _ _ _ _ _ _ _ _ _ _ _ _ (Op1.leaf _ 0 _ (by decide)) (Op1.leaf _ 0 _ (by decide))).mono ?_); rintro e wn ⟨g1, rfl, hx, hb⟩; replace ST := Lib.hid (STD.out.keep hb); have HXA := Lib.hid hx; clear hb hx)
      | (go_at_call 16; (with_reducible refine (HV1.out _ 1 _ HXA.out).mono ?_); rintro e wn ⟨rfl, hb⟩; replace ST := Lib.hid (ST.out.keep hb); clear hb)
      | (go_at_call 19; (with_reducible refine (two_is 9 _ _ _ _ _ _ _ _ _ _ _ _ _ (Op1.leaf _ 0 _ (by decide)) (Op1.leaf _ 0 _ (by decide))).mono ?_); rintro e wn ⟨g2, rfl, hx, hb⟩; replace ST := Lib.hid (ST.out.keep hb); clear HXA; have HXB := Lib.hid hx; clear hb hx)
      | (go_at_call 16; (with_reducible refine (HV2.out _ 1 _ HXB.out).mono ?_); rintro e wn ⟨rfl, hb⟩; replace ST := Lib.hid (ST.out.keep hb); clear hb))
  clear STD HXB HV1 HV2 k0 k1 k2 k3 k4 k5 k6 k7 k8 l0 l1 l2 l3 m0 m1 m2 m3
  go_wp2_with fail
  have STD := Lib.hid ST.out.drew
  obtain ⟨⟨k0, k1, k2, k3, k4, k5, k6, k7, k8⟩, ⟨l0, l1, l2, l3⟩, m0, m1, m2, m3⟩ := ST.out.cells
  go_region_held3 (fun w' => (w'.cell? ⟨p5, 0, none⟩ = some (.int .i64 0) ∧ w'.cell? ⟨p5, 1, none⟩ = some (.int .i64 u) ∧ w'.cell? ⟨p5, 2, none⟩ = some (.int .i64 0) ∧ w'.cell? ⟨p5, 3, none⟩ = some (.int .i64 0) ∧ w'.cell? ⟨p5, 4, none⟩ = some (.int .i64 t) ∧ w'.cell? ⟨p5, 5, none⟩ = some (.int .i64 0) ∧ w'.cell? ⟨p5, 6, none⟩ = some (.string ⟨#[]⟩) ∧ w'.cell? ⟨p5, 7, none⟩ = some (.string ⟨#[]⟩) ∧ w'.cell? ⟨p5, 8, none⟩ = some (.bool false)) ∧ (w'.cell? ⟨p6, 0, none⟩ = some (.int .i64 3) ∧ w'.cell? ⟨p6, 1, none⟩ = some (.int .i64 0) ∧ w'.cell? ⟨p6, 2, none⟩ = some (.string ⟨#[117, 110, 105, 116, 115]⟩) ∧ w'.cell? ⟨p6, 3, none⟩ = some (.slice none 0 0)) ∧ w'.cell? ⟨p6 + 1, 0, none⟩ = some (.int .i64 3) ∧ w'.cell? ⟨p6 + 1, 1, none⟩ = some (.int .i64 0) ∧ w'.cell? ⟨p6 + 1, 2, none⟩ = some (.string ⟨#[116, 111, 116, 97, 108]⟩) ∧ w'.cell? ⟨p6 + 1, 3, none⟩ = some (.slice none 0 0))
    (first | exact ST.out.cells | exact STD.out.cells | go_keep)
    (first
      | (go_at_call 19; (with_reducible refine (two_is 7 _ _ _ _ _ _ _ _ _ _ _ _ _ (Op1.leaf _ 0 _ (by decide)) (Op1.leaf _ 0 _ (by decide))).mono ?_); rintro e wn ⟨g1, rfl, hx, hb⟩; replace ST := Lib.hid (STD.out.keep hb); have HXA := Lib.hid hx; clear hb hx)
      | (go_at_call 16; (with_reducible refine (HV3.out _ 1 _ HXA.out).mono ?_); rintro e wn ⟨rfl, hb⟩; replace ST := Lib.hid (ST.out.keep hb); clear hb)
      | (go_at_call 19; (with_reducible refine (two_is 8 _ _ _ _ _ _ _ _ _ _ _ _ _ (Op1.leaf _ 0 _ (by decide)) (Op1.leaf _ 0 _ (by decide))).mono ?_); rintro e wn ⟨g2, rfl, hx, hb⟩; replace ST := Lib.hid (ST.out.keep hb); clear HXA; have HXB := Lib.hid hx; clear hb hx)
      | (go_at_call 16; (with_reducible refine (HV4.out _ 1 _ HXB.out).mono ?_); rintro e wn ⟨rfl, hb⟩; replace ST := Lib.hid (ST.out.keep hb); clear hb))
  clear STD HXB HV3 HV4 k0 k1 k2 k3 k4 k5 k6 k7 k8 l0 l1 l2 l3 m0 m1 m2 m3
  go_wp2_with fail
  have STD := Lib.hid ST.out.drew
  obtain ⟨⟨k0, k1, k2, k3, k4, k5, k6, k7, k8⟩, ⟨l0, l1, l2, l3⟩, m0, m1, m2, m3⟩ := ST.out.cells
  go_region_held3 (fun w' => (w'.cell? ⟨p5, 0, none⟩ = some (.int .i64 0) ∧ w'.cell? ⟨p5, 1, none⟩ = some (.int .i64 u) ∧ w'.cell? ⟨p5, 2, none⟩ = some (.int .i64 0) ∧ w'.cell? ⟨p5, 3, none⟩ = some (.int .i64 0) ∧ w'.cell? ⟨p5, 4, none⟩ = some (.int .i64 t) ∧ w'.cell? ⟨p5, 5, none⟩ = some (.int .i64 0) ∧ w'.cell? ⟨p5, 6, none⟩ = some (.string ⟨#[]⟩) ∧ w'.cell? ⟨p5, 7, none⟩ = some (.string ⟨#[]⟩) ∧ w'.cell? ⟨p5, 8, none⟩ = some (.bool false)) ∧ (w'.cell? ⟨p6, 0, none⟩ = some (.int .i64 3) ∧ w'.cell? ⟨p6, 1, none⟩ = some (.int .i64 0) ∧ w'.cell? ⟨p6, 2, none⟩ = some (.string ⟨#[117, 110, 105, 116, 115]⟩) ∧ w'.cell? ⟨p6, 3, none⟩ = some (.slice none 0 0)) ∧ w'.cell? ⟨p6 + 1, 0, none⟩ = some (.int .i64 3) ∧ w'.cell? ⟨p6 + 1, 1, none⟩ = some (.int .i64 0) ∧ w'.cell? ⟨p6 + 1, 2, none⟩ = some (.string ⟨#[116, 111, 116, 97, 108]⟩) ∧ w'.cell? ⟨p6 + 1, 3, none⟩ = some (.slice none 0 0))
    (first | exact ST.out.cells | exact STD.out.cells | go_keep)
    (first
      | (go_at_call 19; (with_reducible refine (two_is 10 _ _ _ _ _ _ _ _ _ _ _ _ _ (Op1.leaf _ 0 _ (by decide)) (Op1.leaf _ 0 _ (by decide))).mono ?_); rintro e wn ⟨g1, rfl, hx, hb⟩; replace ST := Lib.hid (STD.out.keep hb); have HXA := Lib.hid hx; clear hb hx)
      | (go_at_call 16; (with_reducible refine (HV5.out _ 1 _ HXA.out).mono ?_); rintro e wn ⟨rfl, hb⟩; replace ST := Lib.hid (ST.out.keep hb); clear hb)
      | (go_at_call 19; (with_reducible refine (two_is 10 _ _ _ _ _ _ _ _ _ _ _ _ _ (Op1.leaf _ 0 _ (by decide)) (Op1.leaf _ 0 _ (by decide))).mono ?_); rintro e wn ⟨g2, rfl, hx, hb⟩; replace ST := Lib.hid (ST.out.keep hb); clear HXA; have HXB := Lib.hid hx; clear hb hx)
      | (go_at_call 16; (with_reducible refine (HV6.out _ 1 _ HXB.out).mono ?_); rintro e wn ⟨rfl, hb⟩; replace ST := Lib.hid (ST.out.keep hb); clear hb))
  clear STD HXB HV5 HV6 k0 k1 k2 k3 k4 k5 k6 k7 k8 l0 l1 l2 l3 m0 m1 m2 m3
  go_upto_region 6 with fail
  have out : ∀ (z : nb u = none ∨ nb t = none), b1 = false ∧ b2 = false ∧ b3 = false ∧ b4 = false ∧ b5 = false ∧ b6 = false := fun z => by
    obtain ⟨h1, h2, h3, h4, h5, h6⟩ := HH.out
    rcases z with z | z
    · rw [z] at h1 h2 h3 h4 h5 h6
      rw [cmpO_left] at h1 h3 h4 h5
      rw [cmpO_right] at h2 h6
      exact ⟨h1.symm, h2.symm, h3.symm, h4.symm, h5.symm, h6.symm⟩
    · rw [z] at h1 h2 h3 h4 h5 h6
      rw [cmpO_right] at h1 h3 h4 h5
      rw [cmpO_left] at h2 h6
      exact ⟨h1.symm, h2.symm, h3.symm, h4.symm, h5.symm, h6.symm⟩
  by_cases c1 : u < -4611686018427387904
  · obtain ⟨rfl, rfl, rfl, rfl, rfl, rfl⟩ := out (.inl (nb_out (.inl c1)))
    have dc1 := decide_eq_true c1
    clear out HH
    go_wp2_with (go_at_call 11; (with_reducible refine (HAW.out _).mono ?_); rintro e wz ⟨rfl, hbz⟩; have HZ := Lib.hid (ST.out.keep hbz); clear hbz)
    go_ret
    exact ⟨rfl, HZ.out.1⟩
  have dc1 := decide_eq_false c1
  by_cases c2 : 4611686018427387904 < u
  · obtain ⟨rfl, rfl, rfl, rfl, rfl, rfl⟩ := out (.inl (nb_out (.inr c2)))
    have dc2 := decide_eq_true c2
    clear out HH
    go_wp2_with (go_at_call 11; (with_reducible refine (HAW.out _).mono ?_); rintro e wz ⟨rfl, hbz⟩; have HZ := Lib.hid (ST.out.keep hbz); clear hbz)
    go_ret
    exact ⟨rfl, HZ.out.1⟩
  have dc2 := decide_eq_false c2
  by_cases c3 : t < -4611686018427387904
  · obtain ⟨rfl, rfl, rfl, rfl, rfl, rfl⟩ := out (.inr (nb_out (.inl c3)))
    have dc3 := decide_eq_true c3
    clear out HH
    go_wp2_with (go_at_call 11; (with_reducible refine (HAW.out _).mono ?_); rintro e wz ⟨rfl, hbz⟩; have HZ := Lib.hid (ST.out.keep hbz); clear hbz)
    go_ret
    exact ⟨rfl, HZ.out.1⟩
  have dc3 := decide_eq_false c3
  by_cases c4 : 4611686018427387904 < t
  · obtain ⟨rfl, rfl, rfl, rfl, rfl, rfl⟩ := out (.inr (nb_out (.inr c4)))
    have dc4 := decide_eq_true c4
    clear out HH
    go_wp2_with (go_at_call 11; (with_reducible refine (HAW.out _).mono ?_); rintro e wz ⟨rfl, hbz⟩; have HZ := Lib.hid (ST.out.keep hbz); clear hbz)
    go_ret
    exact ⟨rfl, HZ.out.1⟩
  have dc4 := decide_eq_false c4
  have hu : -4611686018427387904 ≤ u ∧ u ≤ 4611686018427387904 := by omega
  have ht : -4611686018427387904 ≤ t ∧ t ≤ 4611686018427387904 := by omega
  have hh := HH.out
  rw [nb_in hu, nb_in ht] at hh
  have hh : agr 9 (cmpI u t) = b1 ∧ agr 9 (cmpI t u) = b2 ∧ agr 7 (cmpI u t) = b3 ∧ agr 8 (cmpI u t) = b4 ∧ agr 10 (cmpI u t) = b5 ∧ agr 10 (cmpI t u) = b6 := hh
  clear out HH hu ht
  have hcs : (u < t ∧ cmpI u t = -1 ∧ cmpI t u = 1) ∨ (t < u ∧ cmpI u t = 1 ∧ cmpI t u = -1) ∨ (u = t ∧ cmpI u t = 0 ∧ cmpI t u = 0) := by
    unfold cmpI
    by_cases h1 : u < t
    · left; exact ⟨h1, by rw [if_pos h1], by rw [if_neg (by omega), if_pos h1]⟩
    · by_cases h2 : t < u
      · right; left; exact ⟨h2, by rw [if_neg h1, if_pos h2], by rw [if_pos h2]⟩
      · right; right; exact ⟨by omega, by rw [if_neg h1, if_neg h2], by rw [if_neg h2, if_neg h1]⟩
  rcases hcs with ⟨s, e1, e2⟩ | ⟨s, e1, e2⟩ | ⟨s, e1, e2⟩
  · rw [e1, e2] at hh
    obtain ⟨rfl, rfl, rfl, rfl, rfl, rfl⟩ : b1 = true ∧ b2 = false ∧ b3 = false ∧ b4 = true ∧ b5 = true ∧ b6 = false := ⟨hh.1.symm.trans (by decide), hh.2.1.symm.trans (by decide), hh.2.2.1.symm.trans (by decide), hh.2.2.2.1.symm.trans (by decide), hh.2.2.2.2.1.symm.trans (by decide), hh.2.2.2.2.2.symm.trans (by decide)⟩
    have f1 : decide (u < t) = true := by simp; omega
    have f2 : decide (t < u) = false := by simp; omega
    have f3 : (u == t) = false := by simp; omega
    clear hh e1 e2 c1 c2 c3 c4 s
    go_wp2_with (go_at_call 11; (with_reducible refine (HAW.out _).mono ?_); rintro e wz ⟨rfl, hbz⟩; have HZ := Lib.hid (ST.out.keep hbz); clear hbz)
    go_ret
    exact ⟨rfl, HZ.out.1⟩
  · rw [e1, e2] at hh
    obtain ⟨rfl, rfl, rfl, rfl, rfl, rfl⟩ : b1 = false ∧ b2 = true ∧ b3 = false ∧ b4 = true ∧ b5 = false ∧ b6 = true := ⟨hh.1.symm.trans (by decide), hh.2.1.symm.trans (by decide), hh.2.2.1.symm.trans (by decide), hh.2.2.2.1.symm.trans (by decide), hh.2.2.2.2.1.symm.trans (by decide), hh.2.2.2.2.2.symm.trans (by decide)⟩
    have f1 : decide (u < t) = false := by simp; omega
    have f2 : decide (t < u) = true := by simp; omega
    have f3 : (u == t) = false := by simp; omega
    clear hh e1 e2 c1 c2 c3 c4 s
    go_wp2_with (go_at_call 11; (with_reducible refine (HAW.out _).mono ?_); rintro e wz ⟨rfl, hbz⟩; have HZ := Lib.hid (ST.out.keep hbz); clear hbz)
    go_ret
    exact ⟨rfl, HZ.out.1⟩
  · rw [e1, e2] at hh
    obtain ⟨rfl, rfl, rfl, rfl, rfl, rfl⟩ : b1 = false ∧ b2 = false ∧ b3 = true ∧ b4 = false ∧ b5 = true ∧ b6 = true := ⟨hh.1.symm.trans (by decide), hh.2.1.symm.trans (by decide), hh.2.2.1.symm.trans (by decide), hh.2.2.2.1.symm.trans (by decide), hh.2.2.2.2.1.symm.trans (by decide), hh.2.2.2.2.2.symm.trans (by decide)⟩
    have f1 : decide (u < t) = false := by simp; omega
    have f2 : decide (t < u) = false := by simp; omega
    have f3 : (u == t) = true := by simp; omega
    clear hh e1 e2 c1 c2 c3 c4 s
    go_wp2_with (go_at_call 11; (with_reducible refine (HAW.out _).mono ?_); rintro e wz ⟨rfl, hbz⟩; have HZ := Lib.hid (ST.out.keep hbz); clear hbz)
    go_ret
    exact ⟨rfl, HZ.out.1⟩
end Go.Proofs.Ytklpaonhmmfioaa
