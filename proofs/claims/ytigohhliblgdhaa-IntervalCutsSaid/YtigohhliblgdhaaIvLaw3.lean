/- Walk: the law on cuts. -/
import Derived.Test.YtigohhliblgdhaaIvLaw1
namespace Go.Proofs.Ytigohhliblgdhaa
open Go.RowKit

set_option maxHeartbeats 8000000 in
theorem walkIntervalCuts (a b : Int) (A : Option Addr) (n c : Nat) (zs : List Int) (w : World) (_ : (Lit.int .i64 a).wf = true) (_ : (Lit.int .i64 b).wf = true) (hz : IsRow .i64 w A n c zs) :
    Calls Try.prog 4 #[.agg #[.int .i64 a, .int .i64 b], .slice A n c] w fun e w' => e = .returned (.bool true) ∧ Below w.heap.size w w' := by
  obtain ⟨l, hl, hc, hA⟩ := ir_row hz
  clear hz
  have HB := Lib.hid (Blk.new w 23 #[.int .i64 a, .int .i64 b])
  have hw0 : Below w.heap.size w (w.alloc (.cells #[.int .i64 a, .int .i64 b] 23)) := (Below.refl _ w).alloc (Nat.le_refl _) _
  have HW0 := Lib.hid hw0
  by_cases h60 : n ≤ 60
  · have hd : ¬ (60 : Int) < (n : Int) := by omega
    have HA := Lib.hid (hA.below hw0)
    have hL := cutV_length a b l
    rw [hl] at hL
    have H1 := Lib.hid (fun W h => cut_any a b A n c l W h hl hc (by omega))
    have H2 := Lib.hid (fun W h => refCut_any a b A n c l W h hl hc (by omega))
    have hcase : (vl (a, b) = false ∧ cutV a b l = []) ∨ (vl (a, b) = true ∧ (∀ q ∈ cutV a b l, vl q = true) ∧ len (cutV a b l) = b - a ∧ 0 ≤ a ∧ a < b ∧ b ≤ 12622780800) := by
      cases hv : vl (a, b)
      · exact .inl ⟨rfl, cutV_no hv l⟩
      · exact .inr ⟨rfl, (cutV_all hv l).1, (cutV_all hv l).2, vl_iff.1 hv⟩
    have HV := Lib.hid (fun v h W => refValid_is a b v h W)
    generalize cutV a b l = L at *
    clear hA hl hw0
    have hbound : ∀ k : Nat, -100000000000000 ≤ len (L.take k) ∧ len (L.take k) ≤ 100000000000000 := by
      rcases hcase with ⟨_, rfl⟩ | ⟨_, h, he, h1, h2, h3⟩
      · intro k; simp [len]
      · intro k; have := len_part h k; omega
    have hvl : ∀ k, k < L.length → 0 ≤ (L.getD k (0, 0)).1 ∧ (L.getD k (0, 0)).1 < (L.getD k (0, 0)).2 ∧ (L.getD k (0, 0)).2 ≤ 12622780800 := by
      rcases hcase with ⟨_, rfl⟩ | ⟨_, h, _⟩
      · intro k hk; exact absurd hk (Nat.not_lt_zero k)
      · intro k hk; exact vl_at h hk
    have HBD := Lib.hid hbound; have HVL := Lib.hid hvl; have HCS := Lib.hid hcase
    obtain ⟨N, hN⟩ : ∃ N, L.length = N := ⟨_, rfl⟩
    have HN := Lib.hid hN
    rw [hN] at hL
    clear hbound hvl hcase hN
    go_enter Try.func4, Try.ntmps4
    go_wp2_with (first
      | (go_at_call 16; (with_reducible refine (H1.out _ HA.out).mono ?_); rintro e w1 ⟨R1, r1, rfl, hr1, hR1, hb1⟩; have hB1 := HB.out.below hb1 HB.out.lt; have HR1 := Lib.hid hR1; have HB1 := Lib.hid hB1; have hl1 := hB1.lt; have hs1 := hb1.size; obtain ⟨p0, p1⟩ := hB1.two; clear hR1 hB1)
      | (go_at_call 18; (with_reducible refine (H2.out _ (HA.out.below hb1)).mono ?_); rintro e w2 ⟨R2, r2, rfl, hr2, hR2, hb2⟩; clear p0 p1; have hB2 := HB1.out.below hb2 HB1.out.lt; have HR2 := Lib.hid hR2; have HB2 := Lib.hid hB2; have hb2' := hb1.trans (hb2.mono hs1); have hs2 := hb2'.size; obtain ⟨p0, p1⟩ := hB2.two; have HR12 := Lib.hid (HR1.out.below hb2); clear hR2 hB2 hb2)
      | (go_at_call 17; (with_reducible refine (same_yes _ _ _ _ _ L _ HR12.out HR2.out rfl (by rw [HN.out]; omega) hr1 hr2).mono ?_); rintro e w3 ⟨rfl, hb3⟩; clear p0 p1; have hB3 := HB2.out.below hb3 HB2.out.lt; have HB3 := Lib.hid hB3; have hb3' := hb2'.trans (hb3.mono hs2); have HR13 := Lib.hid (HR12.out.below hb3); obtain ⟨p0, p1⟩ := hB3.two; clear hB3 hb3))
    have hs3 := hb3'.size
    have HB3' := Lib.hid hb3'
    have hr1' : N ≤ r1 := by rw [← HN.out]; exact hr1
    rw [HN.out]
    clear p0 p1 hb1 hs1 hb2' hs2 hb3' hr1 hr2 hl1
    go_loopw [6, 7] (fun s i wr => ∃ (k : Nat) (x : Int), k ≤ N ∧ i = .int .i64 k ∧ s = .int .i64 x ∧ Hid (len (L.take k) = x) ∧ Below w3.heap.size w3 wr) (fun _ i _ => N - (intOf i).toNat)
    case atStart => exact ⟨0, 0, by omega, rfl, rfl, Lib.hid (by rw [List.take_zero]; rfl), Below.refl _ _⟩
    case round =>
      obtain ⟨k, x, hk, rfl, rfl, HX, hbr⟩ := hrel
      have hs := hbr.size
      have hx := HBD.out k
      rw [HX.out] at hx
      by_cases hlt : k < N
      · obtain ⟨bk, off, rfl, hbl, d0, d1⟩ := HR13.out k (by rw [HN.out]; exact hlt)
        have hv := HVL.out k (by rw [HN.out]; exact hlt)
        have e0 := (hbr.cell (p := ⟨bk, off + k * 2, none⟩) hbl).trans d0
        have e1 := (hbr.cell (p := ⟨bk, off + k * 2 + 1, none⟩) hbl).trans d1
        have hlt' : (k : Int) < (N : Int) := by omega
        have h0' : (0 : Int) ≤ (k : Int) := by omega
        obtain ⟨p, hp⟩ : ∃ p, L.getD k (0, 0) = p := ⟨_, rfl⟩
        obtain ⟨u, z⟩ := p
        have HS := Lib.hid (len_take_step (show k < L.length by rw [HN.out]; exact hlt) hp)
        rw [hp] at e0 e1 hv
        simp only at e0 e1 hv
        obtain ⟨v1, v2, v3⟩ := hv
        have wr1 : IntKind.i64.wrap (x + z) = x + z := IntWalk.i64_in _ (by omega)
        have wr2 : IntKind.i64.wrap (x + z - u) = x + z - u := IntWalk.i64_in _ (by omega)
        clear hp d0 d1
        go_wp2
        go_quiet (fail)
        go_wp2
        go_roundw
        case rel => exact ⟨k + 1, x + z - u, by omega, by go_num, rfl, Lib.hid (by rw [HS.out, HX.out]; omega), below_drewN hbr _⟩
        case measure => simp [intOf]; omega
      · obtain rfl : k = N := by omega
        have HX2 : Hid (len L = x) := Lib.hid (by have := HX.out; rw [← HN.out, List.take_length] at this; exact this)
        have hBr := HB3.out.below hbr HB3.out.lt
        have HBr := Lib.hid hBr
        obtain ⟨p0, p1⟩ := hBr.two
        clear hBr
        rcases HCS.out with ⟨h0, _⟩ | ⟨h1, _, he, g1, g2, g3⟩
        · have HV0 := Lib.hid (HV.out _ h0)
          clear h0
          go_wp2_with (first
            | (go_at_call 12; (with_reducible refine (HV0.out _).mono ?_); rintro e w5 ⟨rfl, hb5⟩; have hb5' := hbr.trans (hb5.mono hs); clear p0 p1 hb5)
            | (go_at_call 15; (with_reducible refine (awake_any _).mono ?_); rintro e w6 ⟨rfl, hb6⟩))
          go_ret
          exact ⟨rfl, HW0.out.trans ((HB3'.out.trans ((hb5'.trans (hb6.mono hb5'.size)).mono hs3)).mono (by simp))⟩
        · have HV0 := Lib.hid (HV.out _ h1)
          obtain rfl : x = b - a := by rw [← HX2.out, he]
          clear h1 he HX HX2
          go_wp2_with (first
            | (go_at_call 12; (with_reducible refine (HV0.out _).mono ?_); rintro e w5 ⟨rfl, hb5⟩; have hb5' := hbr.trans (hb5.mono hs); clear p0 p1; obtain ⟨p0, p1⟩ := (HBr.out.below hb5 HBr.out.lt).two; clear hb5)
            | (go_at_call 15; (with_reducible refine (awake_any _).mono ?_); rintro e w6 ⟨rfl, hb6⟩))
          go_ret
          exact ⟨rfl, HW0.out.trans ((HB3'.out.trans ((hb5'.trans (hb6.mono hb5'.size)).mono hs3)).mono (by simp))⟩
  · have hd : (60 : Int) < (n : Int) := by omega
    go_enter Try.func4, Try.ntmps4
    go_wp2_with (go_at_call 15; (with_reducible refine (awake_any _).mono ?_); rintro e w6 ⟨rfl, hb6⟩)
    go_ret
    exact ⟨rfl, HW0.out.trans (hb6.mono (by simp))⟩
end Go.Proofs.Ytigohhliblgdhaa
