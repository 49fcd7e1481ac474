/- Walk of the law on quotients and remainders. -/
import Derived.Test.YtklpaonhmmfioaaEvD
namespace Go.Proofs.Ytklpaonhmmfioaa
open Go.RowKit Ck Go.Lib

namespace Ck
def UtE (w0 : World) (u t : Int) (p5 : Nat) (W : World) : Prop := Below w0.heap.size w0 W ∧ Blk W p5 26 #[.int .i64 0, .int .i64 u, .int .i64 0, .int .i64 0, .int .i64 t, .int .i64 0, .string ⟨#[]⟩, .string ⟨#[]⟩, .bool false]
theorem UtE.keep {w0 W W' : World} {u t : Int} {p5 : Nat} (h : UtE w0 u t p5 W) (hb : Below W.heap.size W W') : UtE w0 u t p5 W' := ⟨h.1.trans (hb.mono h.1.size), h.2.below hb h.2.lt⟩
end Ck
set_option maxRecDepth 100000 in
set_option maxHeartbeats 32000000 in
theorem walkEvalDivides (u t : Int) (w : World) : Calls Try.prog 6 #[.int .i64 u, .int .i64 t] w fun e w' => e = .returned (.bool true) ∧ Below w.heap.size w w' := by
  obtain ⟨q, x, hq⟩ := OV.ex (numR (envU u t) (e2 14 aU aT))
  obtain ⟨m, y, hm⟩ := OV.ex (numR (envU u t) (e2 15 aU aT))
  have HV1 := Lib.hid (fun g d W h => utN hq g d W h)
  have HV2 := Lib.hid (fun g d W h => utN hm g d W h)
  have HNAM := Lib.hid (fun n W => name_is n W)
  have HAW := Lib.hid (fun W => awake_any W)
  rw [ut_num st1.1, ut_two _ (by decide), ut_u, ut_t] at hq
  rw [ut_num st1.2.1, ut_two _ (by decide), ut_u, ut_t] at hm
  have HQ := Lib.hid hq; have HM := Lib.hid hm
  clear hq hm
  go_enter Try.func6, Try.ntmps6
  go_upto_region 2 with fail
  obtain ⟨p5, hp5⟩ : ∃ p, w.heap.size = p := ⟨_, rfl⟩
  have HE : Hid (UtE w u t p5 (w.alloc (.cells #[.int .i64 0, .int .i64 u, .int .i64 0, .int .i64 0, .int .i64 t, .int .i64 0, .string ⟨#[]⟩, .string ⟨#[]⟩, .bool false] 26))) := Lib.hid ⟨below_one w _, hp5 ▸ Blk.new w _ _⟩
  generalize w.alloc (.cells #[.int .i64 0, .int .i64 u, .int .i64 0, .int .i64 0, .int .i64 t, .int .i64 0, .string ⟨#[]⟩, .string ⟨#[]⟩, .bool false] 26) = L0 at HE ⊢
  rw [hp5]
  clear hp5
  go_upto_region 3 with (go_at_call 18; (with_reducible refine (HNAM.out _ _).mono ?_); rintro e wn ⟨rfl, hb⟩; replace HE := Lib.hid (UtE.keep HE.out hb); clear hb)
  have hst := UtS.of HE.out.1 HE.out.2
  obtain ⟨p6, hp⟩ : ∃ p, wn.heap.size = p := ⟨_, rfl⟩
  rw [hp] at hst ⊢
  generalize (wn.alloc (.cells #[.int .i64 3, .int .i64 0, .string ⟨#[117, 110, 105, 116, 115]⟩, .slice none 0 0] 24)).alloc (.cells #[.int .i64 3, .int .i64 0, .string ⟨#[116, 111, 116, 97, 108]⟩, .slice none 0 0] 24) = L1 at hst ⊢
  have ST := Lib.hid hst
  clear hst hp HE HNAM
  have STD := Lib.hid ST.out.drew
  obtain ⟨⟨k0, k1, k2, k3, k4, k5, k6, k7, k8⟩, ⟨l0, l1, l2, l3⟩, m0, m1, m2, m3⟩ := ST.out.cells
  go_region_held3 (fun w' => (w'.cell? ⟨p5, 0, none⟩ = some (.int .i64 0) ∧ w'.cell? ⟨p5, 1, none⟩ = some (.int .i64 u) ∧ w'.cell? ⟨p5, 2, none⟩ = some (.int .i64 0) ∧ w'.cell? ⟨p5, 3, none⟩ = some (.int .i64 0) ∧ w'.cell? ⟨p5, 4, none⟩ = some (.int .i64 t) ∧ w'.cell? ⟨p5, 5, none⟩ = some (.int .i64 0) ∧ w'.cell? ⟨p5, 6, none⟩ = some (.string ⟨#[]⟩) ∧ w'.cell? ⟨p5, 7, none⟩ = some (.string ⟨#[]⟩) ∧ w'.cell? ⟨p5, 8, none⟩ = some (.bool false)) ∧ (w'.cell? ⟨p6, 0, none⟩ = some (.int .i64 3) ∧ w'.cell? ⟨p6, 1, none⟩ = some (.int .i64 0) ∧ w'.cell? ⟨p6, 2, none⟩ = some (.string ⟨#[117, 110, 105, 116, 115]⟩) ∧ w'.cell? ⟨p6, 3, none⟩ = some (.slice none 0 0)) ∧ w'.cell? ⟨p6 + 1, 0, none⟩ = some (.int .i64 3) ∧ w'.cell? ⟨p6 + 1, 1, none⟩ = some (.int .i64 0) ∧ w'.cell? ⟨p6 + 1, 2, none⟩ = some (.string ⟨#[116, 111, 116, 97, 108]⟩) ∧ w'.cell? ⟨p6 + 1, 3, none⟩ = some (.slice none 0 0))
    (first | exact ST.out.cells | exact STD.out.cells | go_keep)
    (first
      | (go_at_call 19; (with_reducible refine (two_is 14 _ _ _ _ _ _ _ _ _ _ _ _ _ (Op1.leaf _ 0 _ (by decide)) (Op1.leaf _ 0 _ (by decide))).mono ?_); rintro e wn ⟨g1, rfl, hx, hb⟩; replace ST := Lib.hid (STD.out.keep hb); have HXA := Lib.hid hx; clear hb hx)
      | (go_at_call 12; (with_reducible refine (HV1.out _ 1 _ HXA.out).mono ?_); rintro e wn ⟨rfl, hb⟩; replace ST := Lib.hid (ST.out.keep hb); clear hb))
  clear STD HXA HV1 k0 k1 k2 k3 k4 k5 k6 k7 k8 l0 l1 l2 l3 m0 m1 m2 m3
  go_wp2_with fail
  have STD := Lib.hid ST.out.drew
  obtain ⟨⟨k0, k1, k2, k3, k4, k5, k6, k7, k8⟩, ⟨l0, l1, l2, l3⟩, m0, m1, m2, m3⟩ := ST.out.cells
  go_region_held3 (fun w' => (w'.cell? ⟨p5, 0, none⟩ = some (.int .i64 0) ∧ w'.cell? ⟨p5, 1, none⟩ = some (.int .i64 u) ∧ w'.cell? ⟨p5, 2, none⟩ = some (.int .i64 0) ∧ w'.cell? ⟨p5, 3, none⟩ = some (.int .i64 0) ∧ w'.cell? ⟨p5, 4, none⟩ = some (.int .i64 t) ∧ w'.cell? ⟨p5, 5, none⟩ = some (.int .i64 0) ∧ w'.cell? ⟨p5, 6, none⟩ = some (.string ⟨#[]⟩) ∧ w'.cell? ⟨p5, 7, none⟩ = some (.string ⟨#[]⟩) ∧ w'.cell? ⟨p5, 8, none⟩ = some (.bool false)) ∧ (w'.cell? ⟨p6, 0, none⟩ = some (.int .i64 3) ∧ w'.cell? ⟨p6, 1, none⟩ = some (.int .i64 0) ∧ w'.cell? ⟨p6, 2, none⟩ = some (.string ⟨#[117, 110, 105, 116, 115]⟩) ∧ w'.cell? ⟨p6, 3, none⟩ = some (.slice none 0 0)) ∧ w'.cell? ⟨p6 + 1, 0, none⟩ = some (.int .i64 3) ∧ w'.cell? ⟨p6 + 1, 1, none⟩ = some (.int .i64 0) ∧ w'.cell? ⟨p6 + 1, 2, none⟩ = some (.string ⟨#[116, 111, 116, 97, 108]⟩) ∧ w'.cell? ⟨p6 + 1, 3, none⟩ = some (.slice none 0 0))
    (first | exact ST.out.cells | exact STD.out.cells | go_keep)
    (first
      | (go_at_call 19; (with_reducible refine (two_is 15 _ _ _ _ _ _ _ _ _ _ _ _ _ (Op1.leaf _ 0 _ (by decide)) (Op1.leaf _ 0 _ (by decide))).mono ?_); rintro e wn ⟨g1, rfl, hx, hb⟩; replace ST := Lib.hid (STD.out.keep hb); have HXA := Lib.hid hx; clear hb hx)
      | (go_at_call 12; (with_reducible refine (HV2.out _ 1 _ HXA.out).mono ?_); rintro e wn ⟨rfl, hb⟩; replace ST := Lib.hid (ST.out.keep hb); clear hb))
  clear STD HXA HV2 k0 k1 k2 k3 k4 k5 k6 k7 k8 l0 l1 l2 l3 m0 m1 m2 m3
  go_upto_region 5 with fail
  have out : ∀ (z : t = 0 ∨ nb u = none ∨ nb t = none), (q = 0 ∧ x = false) ∧ m = 0 ∧ y = false := fun z => by
    have h14 : opO 14 (nb u) (nb t) = none := by
      rcases z with rfl | z | z
      · cases nb u <;> rfl
      · rw [z, opO_left]
      · rw [z, opO_right]
    have h15 : opO 15 (nb u) (nb t) = none := by
      rcases z with rfl | z | z
      · cases nb u <;> rfl
      · rw [z, opO_left]
      · rw [z, opO_right]
    have h1 := HQ.out; have h2 := HM.out
    rw [h14] at h1; rw [h15] at h2
    exact ⟨⟨h1.1, h1.2⟩, h2.1, h2.2⟩
  by_cases c1 : u < -4611686018427387904
  · obtain ⟨⟨rfl, rfl⟩, rfl, rfl⟩ := out (.inr (.inl (nb_out (.inl c1))))
    have d1 := decide_eq_true c1
    clear out HQ HM
    go_wp2_with (go_at_call 11; (with_reducible refine (HAW.out _).mono ?_); rintro e wz ⟨rfl, hbz⟩; have HZ := Lib.hid (ST.out.keep hbz); clear hbz)
    go_ret
    exact ⟨rfl, HZ.out.1⟩
  have d1 := decide_eq_false c1
  by_cases c2 : 4611686018427387904 < u
  · obtain ⟨⟨rfl, rfl⟩, rfl, rfl⟩ := out (.inr (.inl (nb_out (.inr c2))))
    have d2 := decide_eq_true c2
    clear out HQ HM
    go_wp2_with (go_at_call 11; (with_reducible refine (HAW.out _).mono ?_); rintro e wz ⟨rfl, hbz⟩; have HZ := Lib.hid (ST.out.keep hbz); clear hbz)
    go_ret
    exact ⟨rfl, HZ.out.1⟩
  have d2 := decide_eq_false c2
  by_cases c3 : t < -4611686018427387904
  · obtain ⟨⟨rfl, rfl⟩, rfl, rfl⟩ := out (.inr (.inr (nb_out (.inl c3))))
    have d3 := decide_eq_true c3
    clear out HQ HM
    go_wp2_with (go_at_call 11; (with_reducible refine (HAW.out _).mono ?_); rintro e wz ⟨rfl, hbz⟩; have HZ := Lib.hid (ST.out.keep hbz); clear hbz)
    go_ret
    exact ⟨rfl, HZ.out.1⟩
  have d3 := decide_eq_false c3
  by_cases c4 : 4611686018427387904 < t
  · obtain ⟨⟨rfl, rfl⟩, rfl, rfl⟩ := out (.inr (.inr (nb_out (.inr c4))))
    have d4 := decide_eq_true c4
    clear out HQ HM
    go_wp2_with (go_at_call 11; (with_reducible refine (HAW.out _).mono ?_); rintro e wz ⟨rfl, hbz⟩; have HZ := Lib.hid (ST.out.keep hbz); clear hbz)
    go_ret
    exact ⟨rfl, HZ.out.1⟩
  have d4 := decide_eq_false c4
  by_cases c5 : t = 0
  · obtain ⟨⟨rfl, rfl⟩, rfl, rfl⟩ := out (.inl c5)
    have d5 : (t == 0) = true := by simpa using c5
    clear out HQ HM c5
    go_wp2_with (go_at_call 11; (with_reducible refine (HAW.out _).mono ?_); rintro e wz ⟨rfl, hbz⟩; have HZ := Lib.hid (ST.out.keep hbz); clear hbz)
    go_ret
    exact ⟨rfl, HZ.out.1⟩
  have d5 : (t == 0) = false := by simpa using c5
  have hu : -4611686018427387904 ≤ u ∧ u ≤ 4611686018427387904 := by omega
  have ht : -4611686018427387904 ≤ t ∧ t ≤ 4611686018427387904 := by omega
  have h1 : OV (opN 14 u t) q x := by have h1 := HQ.out; rw [nb_in hu, nb_in ht] at h1; exact h1
  have h2 : OV (opN 15 u t) m y := by have h1 := HM.out; rw [nb_in hu, nb_in ht] at h1; exact h1
  rw [opN_div c5] at h1
  rw [opN_mod c5] at h2
  obtain ⟨rfl, rfl⟩ : q = u.tdiv t ∧ x = true := ⟨h1.1, h1.2⟩
  obtain ⟨hm, rfl⟩ : m = u.tmod t ∧ y = true := ⟨h2.1, h2.2⟩
  have hback : numR (envU u t) (e2 11 (e2 13 (e2 14 aU aT) aT) (e2 15 aU aT)) = some u := by
    rw [ut_num st1.2.2.2.2.2, ut_two _ (by decide), ut_two _ (by decide), ut_two _ (by decide), ut_two _ (by decide), ut_u, ut_t, nb_in hu, nb_in ht]
    show opO 11 (opO 13 (opN 14 u t) (some t)) (opN 15 u t) = some u
    rw [opN_div c5, opN_mod c5]
    exact div_back c5 hu
  have HV3 := Lib.hid (fun g d W h => utN (x := u) (q := true) (by rw [hback]; exact ⟨rfl, rfl⟩) g d W h)
  have hs1 := tmod_sign (u := u) (t := t)
  have hs2 := tmod_small (u := u) c5
  rw [← hm] at hs1 hs2
  obtain ⟨qq, hqq⟩ : ∃ z, u.tdiv t = z := ⟨_, rfl⟩
  rw [hqq]
  have HF : Hid ((0 ≤ u → 0 ≤ m) ∧ (u ≤ 0 → m ≤ 0) ∧ m.natAbs < t.natAbs) := Lib.hid ⟨hs1.1, hs1.2, hs2⟩
  have mb1 : -4611686018427387904 ≤ m := by omega
  have mb2 : m ≤ 4611686018427387904 := by omega
  clear out HQ HM h1 h2 hback hs1 hs2 hqq hm hu ht
  go_wp2_with fail
  have STD := Lib.hid ST.out.drew
  obtain ⟨⟨k0, k1, k2, k3, k4, k5, k6, k7, k8⟩, ⟨l0, l1, l2, l3⟩, m0, m1, m2, m3⟩ := ST.out.cells
  go_region_held3 (fun w' => (w'.cell? ⟨p5, 0, none⟩ = some (.int .i64 0) ∧ w'.cell? ⟨p5, 1, none⟩ = some (.int .i64 u) ∧ w'.cell? ⟨p5, 2, none⟩ = some (.int .i64 0) ∧ w'.cell? ⟨p5, 3, none⟩ = some (.int .i64 0) ∧ w'.cell? ⟨p5, 4, none⟩ = some (.int .i64 t) ∧ w'.cell? ⟨p5, 5, none⟩ = some (.int .i64 0) ∧ w'.cell? ⟨p5, 6, none⟩ = some (.string ⟨#[]⟩) ∧ w'.cell? ⟨p5, 7, none⟩ = some (.string ⟨#[]⟩) ∧ w'.cell? ⟨p5, 8, none⟩ = some (.bool false)) ∧ (w'.cell? ⟨p6, 0, none⟩ = some (.int .i64 3) ∧ w'.cell? ⟨p6, 1, none⟩ = some (.int .i64 0) ∧ w'.cell? ⟨p6, 2, none⟩ = some (.string ⟨#[117, 110, 105, 116, 115]⟩) ∧ w'.cell? ⟨p6, 3, none⟩ = some (.slice none 0 0)) ∧ w'.cell? ⟨p6 + 1, 0, none⟩ = some (.int .i64 3) ∧ w'.cell? ⟨p6 + 1, 1, none⟩ = some (.int .i64 0) ∧ w'.cell? ⟨p6 + 1, 2, none⟩ = some (.string ⟨#[116, 111, 116, 97, 108]⟩) ∧ w'.cell? ⟨p6 + 1, 3, none⟩ = some (.slice none 0 0))
    (first | exact ST.out.cells | exact STD.out.cells | go_keep)
    (first
      | (go_at_call 19; (with_reducible refine (two_is 14 _ _ _ _ _ _ _ _ _ _ _ _ _ (Op1.leaf _ 0 _ (by decide)) (Op1.leaf _ 0 _ (by decide))).mono ?_); rintro e wn ⟨g1, rfl, hx, hb⟩; replace ST := Lib.hid (STD.out.keep hb); have HXA := Lib.hid hx; clear hb hx)
      | (go_at_call 19; (with_reducible refine (two_is 13 _ _ _ _ _ _ _ _ _ _ _ _ _ (Op1.two HXA.out) (Op1.leaf _ 1 _ (by decide))).mono ?_); rintro e wn ⟨g2, rfl, hx, hb⟩; replace ST := Lib.hid (ST.out.keep hb); have HXB := Lib.hid hx; clear hb hx)
      | (go_at_call 19; (with_reducible refine (two_is 15 _ _ _ _ _ _ _ _ _ _ _ _ _ (Op1.leaf _ 1 _ (by decide)) (Op1.leaf _ 1 _ (by decide))).mono ?_); rintro e wn ⟨g3, rfl, hx, hb⟩; replace ST := Lib.hid (ST.out.keep hb); replace HXB := Lib.hid (HXB.out.below hb); have HXC := Lib.hid hx; clear hb hx)
      | (go_at_call 19; (with_reducible refine (two_is 11 _ _ _ _ _ _ _ _ _ _ _ _ _ (Op1.two HXB.out) (Op1.two HXC.out)).mono ?_); rintro e wn ⟨g4, rfl, hx, hb⟩; replace ST := Lib.hid (ST.out.keep hb); have HXD := Lib.hid hx; clear hb hx)
      | (go_at_call 12; (with_reducible refine (HV3.out _ 3 _ HXD.out).mono ?_); rintro e wn ⟨rfl, hb⟩; replace ST := Lib.hid (ST.out.keep hb); clear hb))
  clear STD HXA HXB HXC HXD HV3 k0 k1 k2 k3 k4 k5 k6 k7 k8 l0 l1 l2 l3 m0 m1 m2 m3
  have hf := HF.out
  have hcs : (0 < u ∧ 0 < t) ∨ (0 < u ∧ t < 0) ∨ (u = 0 ∧ 0 < t) ∨ (u = 0 ∧ t < 0) ∨ (u < 0 ∧ 0 < t) ∨ (u < 0 ∧ t < 0) := by omega
  rcases hcs with ⟨s1, s2⟩ | ⟨s1, s2⟩ | ⟨s1, s2⟩ | ⟨s1, s2⟩ | ⟨s1, s2⟩ | ⟨s1, s2⟩
  · have f1 : decide (0 ≤ u) = true := by simp; omega
    have f2 : decide (u ≤ 0) = false := by simp; omega
    have f3 : decide (m < 0) = false := by simp; omega
    have f5 : decide (m < t) = true := by simp; omega
    have f6 : decide (-m < t) = true := by simp; omega
    have tb1 : -4611686018427387904 ≤ t := by omega
    have tb2 : t ≤ 4611686018427387904 := by omega
    clear hf HF c1 c2 c3 c4 c5
    go_wp2_with (go_at_call 11; (with_reducible refine (HAW.out _).mono ?_); rintro e wz ⟨rfl, hbz⟩; have HZ := Lib.hid (ST.out.keep hbz); clear hbz)
    go_ret
    exact ⟨rfl, HZ.out.1⟩
  · have f1 : decide (0 ≤ u) = true := by simp; omega
    have f2 : decide (u ≤ 0) = false := by simp; omega
    have f3 : decide (m < 0) = false := by simp; omega
    have f5 : decide (m < t) = false := by simp; omega
    have f6 : decide (-m < t) = false := by simp; omega
    have f7 : decide (m < -t) = true := by simp; omega
    have f8 : decide (t < m) = true := by simp; omega
    have f9 : decide (-m < -t) = true := by simp; omega
    have tb1 : -4611686018427387904 ≤ t := by omega
    have tb2 : t ≤ 4611686018427387904 := by omega
    clear hf HF c1 c2 c3 c4 c5
    go_wp2_with (go_at_call 11; (with_reducible refine (HAW.out _).mono ?_); rintro e wz ⟨rfl, hbz⟩; have HZ := Lib.hid (ST.out.keep hbz); clear hbz)
    go_ret
    exact ⟨rfl, HZ.out.1⟩
  · have f1 : decide (0 ≤ u) = true := by simp; omega
    have f2 : decide (u ≤ 0) = true := by simp; omega
    have f3 : decide (m < 0) = false := by simp; omega
    have f4 : decide (0 < m) = false := by simp; omega
    have f5 : decide (m < t) = true := by simp; omega
    have f6 : decide (-m < t) = true := by simp; omega
    have tb1 : -4611686018427387904 ≤ t := by omega
    have tb2 : t ≤ 4611686018427387904 := by omega
    clear hf HF c1 c2 c3 c4 c5
    go_wp2_with (go_at_call 11; (with_reducible refine (HAW.out _).mono ?_); rintro e wz ⟨rfl, hbz⟩; have HZ := Lib.hid (ST.out.keep hbz); clear hbz)
    go_ret
    exact ⟨rfl, HZ.out.1⟩
  · have f1 : decide (0 ≤ u) = true := by simp; omega
    have f2 : decide (u ≤ 0) = true := by simp; omega
    have f3 : decide (m < 0) = false := by simp; omega
    have f4 : decide (0 < m) = false := by simp; omega
    have f5 : decide (m < t) = false := by simp; omega
    have f6 : decide (-m < t) = false := by simp; omega
    have f7 : decide (m < -t) = true := by simp; omega
    have f8 : decide (t < m) = true := by simp; omega
    have f9 : decide (-m < -t) = true := by simp; omega
    have tb1 : -4611686018427387904 ≤ t := by omega
    have tb2 : t ≤ 4611686018427387904 := by omega
    clear hf HF c1 c2 c3 c4 c5
    go_wp2_with (go_at_call 11; (with_reducible refine (HAW.out _).mono ?_); rintro e wz ⟨rfl, hbz⟩; have HZ := Lib.hid (ST.out.keep hbz); clear hbz)
    go_ret
    exact ⟨rfl, HZ.out.1⟩
  · have f1 : decide (0 ≤ u) = false := by simp; omega
    have f2 : decide (u ≤ 0) = true := by simp; omega
    have f4 : decide (0 < m) = false := by simp; omega
    have f5 : decide (m < t) = true := by simp; omega
    have f6 : decide (-m < t) = true := by simp; omega
    have tb1 : -4611686018427387904 ≤ t := by omega
    have tb2 : t ≤ 4611686018427387904 := by omega
    clear hf HF c1 c2 c3 c4 c5
    go_wp2_with (go_at_call 11; (with_reducible refine (HAW.out _).mono ?_); rintro e wz ⟨rfl, hbz⟩; have HZ := Lib.hid (ST.out.keep hbz); clear hbz)
    go_ret
    exact ⟨rfl, HZ.out.1⟩
  · have f1 : decide (0 ≤ u) = false := by simp; omega
    have f2 : decide (u ≤ 0) = true := by simp; omega
    have f4 : decide (0 < m) = false := by simp; omega
    have f5 : decide (m < t) = false := by simp; omega
    have f6 : decide (-m < t) = false := by simp; omega
    have f7 : decide (m < -t) = true := by simp; omega
    have f8 : decide (t < m) = true := by simp; omega
    have f9 : decide (-m < -t) = true := by simp; omega
    have tb1 : -4611686018427387904 ≤ t := by omega
    have tb2 : t ≤ 4611686018427387904 := by omega
    clear hf HF c1 c2 c3 c4 c5
    go_wp2_with (go_at_call 11; (with_reducible refine (HAW.out _).mono ?_); rintro e wz ⟨rfl, hbz⟩; have HZ := Lib.hid (ST.out.keep hbz); clear hbz)
    go_ret
    exact ⟨rfl, HZ.out.1⟩
end Go.Proofs.Ytklpaonhmmfioaa
