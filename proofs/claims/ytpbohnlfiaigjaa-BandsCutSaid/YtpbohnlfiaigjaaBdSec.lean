/- Contracts: Cut and Seconds of the program and of the reference; equal pieces. -/
import Derived.Test.YtpbohnlfiaigjaaBdRCt
namespace Go.Proofs.Ytpbohnlfiaigjaa
open Go.RowKit

theorem cutW_at (l : List Bd) (hol : List Int) (a b : Int) {k : Nat} (hk : k < (cutW l hol a b).length) : 0 ≤ ((cutW l hol a b).getD k pc0).2.1 ∧ ((cutW l hol a b).getD k pc0).2.1 < ((cutW l hol a b).getD k pc0).2.2 ∧ ((cutW l hol a b).getD k pc0).2.2 ≤ 12622780800 ∧ ((cutW l hol a b).getD k pc0).2.2 - ((cutW l hol a b).getD k pc0).2.1 ≤ 2678400 := by
  by_cases h : ckB l = 0 ∧ vl (a, b) = true ∧ b - a ≤ 2678400
  · obtain ⟨h1, h2, h3⟩ := h
    rw [cutW_yes h1 h2 h3] at hk ⊢
    obtain ⟨v0, v1, v2⟩ := vl_iff.1 h2
    simp only at v0 v1 v2
    obtain ⟨g1, g2, g3, _⟩ := (ctP_all (atV l hol) a b v1).1 k hk
    omega
  · have : cutW l hol a b = [] := by unfold cutW; rw [if_neg h]
    rw [this] at hk
    exact absurd hk (Nat.not_lt_zero k)
theorem secs_take {P : List Pc} {k : Nat} {m : ByteArray} {x y : Int} {n : ByteArray} {v : Bool} (hk : k < P.length) (hp : P.getD k pc0 = (m, x, y)) (hv : decide (m = n) = v) : secs (P.take (k + 1)) n = secs (P.take k) n + if v then y - x else 0 := by
  rw [List.take_succ_eq_append_getElem hk, secs_snoc]
  have : P[k] = (m, x, y) := by simpa [List.getD, List.getElem?_eq_getElem hk] using hp
  rw [this, ← hv]
  by_cases h : m = n <;> simp [h]
theorem secs_bound {P : List Pc} (h : ∀ k, k < P.length → 0 ≤ (P.getD k pc0).2.1 ∧ (P.getD k pc0).2.1 < (P.getD k pc0).2.2 ∧ (P.getD k pc0).2.2 ≤ 12622780800 ∧ (P.getD k pc0).2.2 - (P.getD k pc0).2.1 ≤ 2678400) (n : ByteArray) : ∀ k : Nat, k ≤ P.length → 0 ≤ secs (P.take k) n ∧ secs (P.take k) n ≤ k * 2678400 := by
  intro k
  induction k with
  | zero => intro _; rw [List.take_zero, secs_nil]; omega
  | succ k ih =>
    intro hk
    obtain ⟨i1, i2⟩ := ih (by omega)
    obtain ⟨⟨m, x, y⟩, hp⟩ : ∃ p, P.getD k pc0 = p := ⟨_, rfl⟩
    have h1 := h k (by omega)
    rw [hp] at h1
    simp only at h1
    rw [secs_take (show k < P.length by omega) hp rfl]
    split <;> omega
theorem cut_w (A B : Option Addr) (n c m c' : Nat) (l : List Bd) (hol : List Int) (a b : Int) (w : World) (hA : BdR w A l) (hn : l.length = n) (hc : n ≤ c) (hm : c ≤ maxLen) (hB : IR w B hol) (hh : hol.length = m) (hc' : m ≤ c') (hm' : c' ≤ maxLen)
    (hq : ckB l = 0 → nsl l ≤ 100) : Calls Try.prog 21 #[.slice A n c, .slice B m c', .agg #[.int .i64 a, .int .i64 b]] w (PcOut (cutW l hol a b) w) := by
  obtain ⟨ev, hev⟩ : ∃ v, ckB l = v := ⟨_, rfl⟩
  have HC := Lib.hid (fun W h => check_is A n c l ev hev W h hn hc hm)
  have HA := Lib.hid hA
  have HBP := Lib.hid (Blk.new w 37 #[.int .i64 a, .int .i64 b])
  have hb0 : Below w.heap.size w (w.alloc (.cells #[.int .i64 a, .int .i64 b] 37)) := (Below.refl _ w).alloc (Nat.le_refl _) _
  have hs0 := hb0.size
  by_cases hz : ev = 0
  · subst hz
    cases hv : vl (a, b)
    · have HR := Lib.hid (cutW_no (l := l) (hol := hol) (a := a) (b := b) (.inr (.inl hv)))
      have HVA := Lib.hid (valid_is a b false hv)
      clear hA hB hn hm hh hm' hev hq hv
      go_enter Try.func21, Try.ntmps21
      go_wp2_with (first
        | (go_at_call 15; (with_reducible refine (HC.out _ (HA.out.below hb0)).mono ?_); rintro e w1 ⟨rfl, hb1⟩; have hb2 := hb0.trans (hb1.mono hs0); have hs2 := hb2.size; have hP1 := HBP.out.below hb1 HBP.out.lt; obtain ⟨p0, p1⟩ := hP1.two; clear hb1)
        | (go_at_call 52; (with_reducible refine (HVA.out _).mono ?_); rintro e w2 ⟨rfl, hb3⟩; have hb4 := hb2.trans (hb3.mono hs2)))
      go_ret
      exact pcOut_nil _ _ hb4 HR.out rfl
    · by_cases hs : b - a ≤ 2678400
      · rw [cutW_yes hev hv hs]
        exact cut_main A B n c m c' l hol a b w hA hn hc hm hB hh hc' hm' hev hv hs (hq hev)
      · have HR := Lib.hid (cutW_no (l := l) (hol := hol) (a := a) (b := b) (.inr (.inr hs)))
        have HVA := Lib.hid (valid_is a b true hv)
        have d1 : decide (2678400 < b - a) = true := decide_eq_true (by omega)
        obtain ⟨v0, v1, v2⟩ := vl_iff.1 hv
        simp only at v0 v1 v2
        clear hA hB hn hm hh hm' hev hq hv hs
        go_enter Try.func21, Try.ntmps21
        go_wp2_with (first
          | (go_at_call 15; (with_reducible refine (HC.out _ (HA.out.below hb0)).mono ?_); rintro e w1 ⟨rfl, hb1⟩; have hb2 := hb0.trans (hb1.mono hs0); have hs2 := hb2.size; have hP1 := HBP.out.below hb1 HBP.out.lt; obtain ⟨p0, p1⟩ := hP1.two; clear hb1)
          | (go_at_call 52; (with_reducible refine (HVA.out _).mono ?_); rintro e w2 ⟨rfl, hb3⟩; have hb4 := hb2.trans (hb3.mono hs2); have hP2 := hP1.below hb3 hP1.lt; clear p0 p1; obtain ⟨p0, p1⟩ := hP2.two))
        go_ret
        exact pcOut_nil _ _ hb4 HR.out rfl
  · have HR := Lib.hid (cutW_no (l := l) (hol := hol) (a := a) (b := b) (.inl (by rw [hev]; exact hz)))
    have hzq : (ev == 0) = false := by simp [hz]
    clear hA hB hn hm hh hm' hev hq
    go_enter Try.func21, Try.ntmps21
    go_wp2_with (go_at_call 15; (with_reducible refine (HC.out _ (HA.out.below hb0)).mono ?_); rintro e w1 ⟨rfl, hb1⟩; have hb2 := hb0.trans (hb1.mono hs0))
    go_ret
    exact pcOut_nil _ _ hb2 HR.out rfl
theorem refCut_w (A B : Option Addr) (n c m c' : Nat) (l : List Bd) (hol : List Int) (a b : Int) (w : World) (hA : BdR w A l) (hn : l.length = n) (hc : n ≤ c) (hm : c ≤ maxLen) (hB : IR w B hol) (hh : hol.length = m) (hc' : m ≤ c') (hm' : c' ≤ maxLen) :
    Calls Try.prog 22 #[.slice A n c, .slice B m c', .agg #[.int .i64 a, .int .i64 b]] w (PcOut (cutW l hol a b) w) := by
  obtain ⟨ev, hev⟩ : ∃ v, ckB l = v := ⟨_, rfl⟩
  have HC := Lib.hid (fun W h => refCheck_is A n c l ev hev W h hn hc hm)
  have HA := Lib.hid hA
  have HBP := Lib.hid (Blk.new w 37 #[.int .i64 a, .int .i64 b])
  have hb0 : Below w.heap.size w (w.alloc (.cells #[.int .i64 a, .int .i64 b] 37)) := (Below.refl _ w).alloc (Nat.le_refl _) _
  have hs0 := hb0.size
  by_cases hz : ev = 0
  · subst hz
    cases hv : vl (a, b)
    · have HR := Lib.hid (cutW_no (l := l) (hol := hol) (a := a) (b := b) (.inr (.inl hv)))
      have HVA := Lib.hid (refValid_is a b false hv)
      clear hA hB hn hm hh hm' hev hv
      go_enter Try.func22, Try.ntmps22
      go_wp2_with (first
        | (go_at_call 16; (with_reducible refine (HC.out _ (HA.out.below hb0)).mono ?_); rintro e w1 ⟨rfl, hb1⟩; have hb2 := hb0.trans (hb1.mono hs0); have hs2 := hb2.size; have hP1 := HBP.out.below hb1 HBP.out.lt; obtain ⟨p0, p1⟩ := hP1.two; clear hb1)
        | (go_at_call 25; (with_reducible refine (HVA.out _).mono ?_); rintro e w2 ⟨rfl, hb3⟩; have hb4 := hb2.trans (hb3.mono hs2)))
      go_ret
      exact pcOut_nil _ _ hb4 HR.out rfl
    · by_cases hs : b - a ≤ 2678400
      · rw [cutW_yes hev hv hs]
        exact refCut_main A B n c m c' l hol a b w hA hn hc hm hB hh hc' hm' hev hv hs
      · have HR := Lib.hid (cutW_no (l := l) (hol := hol) (a := a) (b := b) (.inr (.inr hs)))
        have HVA := Lib.hid (refValid_is a b true hv)
        have d1 : decide (2678400 < b - a) = true := decide_eq_true (by omega)
        obtain ⟨v0, v1, v2⟩ := vl_iff.1 hv
        simp only at v0 v1 v2
        clear hA hB hn hm hh hm' hev hv hs
        go_enter Try.func22, Try.ntmps22
        go_wp2_with (first
          | (go_at_call 16; (with_reducible refine (HC.out _ (HA.out.below hb0)).mono ?_); rintro e w1 ⟨rfl, hb1⟩; have hb2 := hb0.trans (hb1.mono hs0); have hs2 := hb2.size; have hP1 := HBP.out.below hb1 HBP.out.lt; obtain ⟨p0, p1⟩ := hP1.two; clear hb1)
          | (go_at_call 25; (with_reducible refine (HVA.out _).mono ?_); rintro e w2 ⟨rfl, hb3⟩; have hb4 := hb2.trans (hb3.mono hs2); have hP2 := hP1.below hb3 hP1.lt; clear p0 p1; obtain ⟨p0, p1⟩ := hP2.two))
        go_ret
        exact pcOut_nil _ _ hb4 HR.out rfl
  · have HR := Lib.hid (cutW_no (l := l) (hol := hol) (a := a) (b := b) (.inl (by rw [hev]; exact hz)))
    have hzq : (ev == 0) = false := by simp [hz]
    clear hA hB hn hm hh hm' hev
    go_enter Try.func22, Try.ntmps22
    go_wp2_with (go_at_call 16; (with_reducible refine (HC.out _ (HA.out.below hb0)).mono ?_); rintro e w1 ⟨rfl, hb1⟩; have hb2 := hb0.trans (hb1.mono hs0))
    go_ret
    exact pcOut_nil _ _ hb2 HR.out rfl
set_option maxHeartbeats 4000000 in
theorem seconds_any (A B : Option Addr) (n c m c' : Nat) (l : List Bd) (hol : List Int) (a b : Int) (nm : ByteArray) (w : World) (hA : BdR w A l) (hn : l.length = n) (hc : n ≤ c) (hm : c ≤ maxLen) (hB : IR w B hol) (hh : hol.length = m) (hc' : m ≤ c') (hm' : c' ≤ maxLen)
    (hq : ckB l = 0 → nsl l ≤ 100) : Calls Try.prog 23 #[.slice A n c, .slice B m c', .agg #[.int .i64 a, .int .i64 b], .string nm] w fun e w' => e = .returned (.int .i64 (secs (cutW l hol a b) nm)) ∧ Below w.heap.size w w' := by
  have HCU := Lib.hid (fun W h1 h2 => cut_w A B n c m c' l hol a b W h1 hn hc hm h2 hh hc' hm' hq)
  have HPA := Lib.hid (fun k hk => cutW_at l hol a b (k := k) hk)
  have hPl := cutW_length l hol a b
  obtain ⟨P, hP⟩ : ∃ P, cutW l hol a b = P := ⟨_, rfl⟩
  rw [hP] at HCU HPA hPl ⊢
  have HSB := Lib.hid (secs_bound HPA.out nm)
  obtain ⟨nP, hnP⟩ : ∃ q, P.length = q := ⟨_, rfl⟩
  rw [hnP] at hPl
  have HNP := Lib.hid hnP
  have HA := Lib.hid hA; have HB := Lib.hid hB
  have hb0 : Below w.heap.size w (w.alloc (.cells #[.int .i64 a, .int .i64 b] 37)) := (Below.refl _ w).alloc (Nat.le_refl _) _
  have hs0 := hb0.size
  clear hA hB hn hm hh hm' hq hP hnP
  go_enter Try.func23, Try.ntmps23
  go_wp2_with (go_at_call 21; (with_reducible refine (HCU.out _ (HA.out.below hb0) (HB.out.below hb0)).mono ?_); rintro e w1 ⟨R, r, rfl, hr, hr2, hP, hb1⟩; have HP := Lib.hid hP; have hb2 := hb0.trans (hb1.mono hs0); clear hP hb1)
  rw [HNP.out] at hr ⊢
  unfold maxLen at hr2
  clear hb0 hs0
  have hs2 := hb2.size
  go_loopw [9, 17] (fun sv kv wr => ∃ k : Nat, kv = .int .i64 k ∧ k ≤ nP ∧ sv = .int .i64 (secs (P.take k) nm) ∧ Below w1.heap.size w1 wr) (fun _ kv _ => nP - (intOf kv).toNat)
  case atStart => exact ⟨0, rfl, by omega, rfl, Below.refl _ _⟩
  case round =>
    obtain ⟨k, rfl, hk, rfl, hb⟩ := hrel
    have hs := hb.size
    by_cases hlt : k < nP
    · have hkP : k < P.length := by rw [HNP.out]; exact hlt
      obtain ⟨bk, off, rfl, hbl, q0, q1, q2⟩ := HP.out k hkP
      have e0 := (hb.cell (p := ⟨bk, off + k * 3, none⟩) hbl).trans q0
      have e1 := (hb.cell (p := ⟨bk, off + k * 3 + 1, none⟩) hbl).trans q1
      have e2 := (hb.cell (p := ⟨bk, off + k * 3 + 2, none⟩) hbl).trans q2
      have hlt' : (k : Int) < (nP : Int) := by omega
      obtain ⟨⟨bm, x, y⟩, hp⟩ : ∃ p, P.getD k pc0 = p := ⟨_, rfl⟩
      have hpa := HPA.out k hkP
      rw [hp] at e0 e1 e2 hpa
      simp only at e0 e1 e2 hpa
      obtain ⟨b1, b2⟩ := HSB.out k (by omega)
      obtain ⟨h1, h2, h3, h4⟩ := hpa
      have HST := Lib.hid (fun v hv => secs_take (n := nm) (v := v) hkP hp hv)
      obtain ⟨s0, hs0⟩ : ∃ s, secs (P.take k) nm = s := ⟨_, rfl⟩
      rw [hs0] at HST b1 b2 ⊢
      clear q0 q1 q2 hp hs0 hkP
      cases hv : decide (bm = nm)
      · have hqe := sEq_is hv
        have HS2 := Lib.hid (HST.out _ hv)
        clear hv HST
        go_wp2_with fail
        go_roundw
        case rel => exact ⟨k + 1, by go_num, by omega, by rw [HS2.out]; simp, hb.alloc hs _⟩
        case measure => simp [intOf]; omega
      · have hqe := sEq_is hv
        have HS2 := Lib.hid (HST.out _ hv)
        clear hv HST
        go_wp2_with fail
        go_roundw
        case rel => exact ⟨k + 1, by go_num, by omega, by rw [HS2.out]; simp, hb.alloc hs _⟩
        case measure => simp [intOf]; omega
    · obtain rfl : k = nP := by omega
      have HE : Hid (secs (P.take k) nm = secs P nm) := Lib.hid (by rw [← HNP.out, List.take_length])
      go_wp2_with fail
      go_ret
      exact ⟨ret_i64 HE.out, hb2.trans (hb.mono hs2)⟩
set_option maxHeartbeats 4000000 in
theorem refSeconds_any (A B : Option Addr) (n c m c' : Nat) (l : List Bd) (hol : List Int) (a b : Int) (nm : ByteArray) (w : World) (hA : BdR w A l) (hn : l.length = n) (hc : n ≤ c) (hm : c ≤ maxLen) (hB : IR w B hol) (hh : hol.length = m) (hc' : m ≤ c') (hm' : c' ≤ maxLen) :
    Calls Try.prog 24 #[.slice A n c, .slice B m c', .agg #[.int .i64 a, .int .i64 b], .string nm] w fun e w' => e = .returned (.int .i64 (secs (cutW l hol a b) nm)) ∧ Below w.heap.size w w' := by
  have HCU := Lib.hid (fun W h1 h2 => refCut_w A B n c m c' l hol a b W h1 hn hc hm h2 hh hc' hm')
  have HPA := Lib.hid (fun k hk => cutW_at l hol a b (k := k) hk)
  have hPl := cutW_length l hol a b
  obtain ⟨P, hP⟩ : ∃ P, cutW l hol a b = P := ⟨_, rfl⟩
  rw [hP] at HCU HPA hPl ⊢
  have HSB := Lib.hid (secs_bound HPA.out nm)
  obtain ⟨nP, hnP⟩ : ∃ q, P.length = q := ⟨_, rfl⟩
  rw [hnP] at hPl
  have HNP := Lib.hid hnP
  have HA := Lib.hid hA; have HB := Lib.hid hB
  have hb0 : Below w.heap.size w (w.alloc (.cells #[.int .i64 a, .int .i64 b] 37)) := (Below.refl _ w).alloc (Nat.le_refl _) _
  have hs0 := hb0.size
  clear hA hB hn hm hh hm' hP hnP
  go_enter Try.func24, Try.ntmps24
  go_wp2_with (go_at_call 22; (with_reducible refine (HCU.out _ (HA.out.below hb0) (HB.out.below hb0)).mono ?_); rintro e w1 ⟨R, r, rfl, hr, hr2, hP, hb1⟩; have HP := Lib.hid hP; have hb2 := hb0.trans (hb1.mono hs0); clear hP hb1)
  rw [HNP.out] at hr ⊢
  unfold maxLen at hr2
  clear hb0 hs0
  have hs2 := hb2.size
  go_loopw [10, 11] (fun sv kv wr => ∃ k q : Nat, kv = .int .i64 k ∧ k ≤ nP ∧ sv = .int .i64 (secs (P.take k) nm) ∧ wr = w1.drewN q) (fun _ kv _ => nP - (intOf kv).toNat)
  case atStart => exact ⟨0, 0, rfl, by omega, rfl, rfl⟩
  case round =>
    obtain ⟨k, q, rfl, hk, rfl, rfl⟩ := hrel
    by_cases hlt : k < nP
    · have hkP : k < P.length := by rw [HNP.out]; exact hlt
      obtain ⟨bk, off, rfl, hbl, q0, q1, q2⟩ := HP.out k hkP
      have hlt' : (k : Int) < (nP : Int) := by omega
      obtain ⟨⟨bm, x, y⟩, hp⟩ : ∃ p, P.getD k pc0 = p := ⟨_, rfl⟩
      have hpa := HPA.out k hkP
      rw [hp] at q0 q1 q2 hpa
      simp only at q0 q1 q2 hpa
      obtain ⟨b1, b2⟩ := HSB.out k (by omega)
      obtain ⟨h1, h2, h3, h4⟩ := hpa
      have HST := Lib.hid (fun v hv => secs_take (n := nm) (v := v) hkP hp hv)
      obtain ⟨s0, hs0⟩ : ∃ s, secs (P.take k) nm = s := ⟨_, rfl⟩
      rw [hs0] at HST b1 b2 ⊢
      clear hp hs0 hkP
      cases hv : decide (bm = nm)
      · have hqe := sEq_is hv
        have HS2 := Lib.hid (HST.out _ hv)
        clear hv HST
        go_wp2_with fail
        go_roundw
        case rel => exact ⟨k + 1, q, by go_num, by omega, by rw [HS2.out]; simp, rfl⟩
        case measure => simp [intOf]; omega
      · have hqe := sEq_is hv
        have HS2 := Lib.hid (HST.out _ hv)
        clear hv HST
        go_wp2_with fail
        go_quiet (fail)
        go_wp2_with fail
        go_roundw
        case rel => exact ⟨k + 1, _, by go_num, by omega, by rw [HS2.out]; simp; omega, rfl⟩
        case measure => simp [intOf]; omega
    · obtain rfl : k = nP := by omega
      have HE : Hid (secs (P.take k) nm = secs P nm) := Lib.hid (by rw [← HNP.out, List.take_length])
      go_wp2_with fail
      go_ret
      exact ⟨ret_i64 HE.out, below_drewN hb2 _⟩
end Go.Proofs.Ytpbohnlfiaigjaa
