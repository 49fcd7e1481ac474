/- Walks: the reference rounds a number, and gives ones to the greatest rests. -/
import Derived.Test.YtopngdjhnljmfaaDoorGiveM
import Derived.Test.YtopngdjhnljmfaaDoorLawKit
namespace Go.Proofs.YtopngdjhnljmfaaDoor
open Go.RowKit St

theorem own_drewN {w : World} {base : Nat} {e : TypeId} {size : Nat} {v : Value} {n : Nat} {xs : List Value} (h : w.ownsRow base e size v n xs) (k : Nat) : (w.drewN k).ownsRow base e size v n xs := h
theorem hi_drewN {w : World} {g : Nat} {d : List Int} (h : HI w g d) (k : Nat) : HI (w.drewN k) g d := h
theorem nats_take {C : List Int} {t : Nat} {c : Nat} (h : t < (nats C).length) (hc : (nats C)[t]?.getD 0 = c) : (nats C).take (t + 1) = (nats C).take t ++ [c] := by
  rw [List.take_succ_eq_append_getElem h]
  have : (nats C)[t] = c := by rw [← hc, List.getElem?_eq_getElem h]; rfl
  rw [this]
set_option maxRecDepth 100000 in
set_option maxHeartbeats 8000000 in
theorem give_any (A B : Option Addr) (n c c' m : Nat) (xs rs C : List Int) (r : Int → Int) (w : World) (hA : Has w A n c (xs.map (Value.int .i64))) (hB : Has w B n c' (rs.map (Value.int .i64))) (hx : xs.length = n) (hr : rs.length = n) (hn : n ≤ 4096)
    (hxb : ∀ x ∈ xs, -1125899906842624 ≤ x ∧ x ≤ 1125899906842624) (hrr : ∀ i : Nat, i < n → rs.getD i 0 = r i) (h0 : ∀ i : Nat, i < n → 0 ≤ r i) (hC : SP r 0 n C) (hm : m ≤ n) :
    Calls Tryd.prog 20 #[.slice A n c, .slice B n c', .int .i64 m] w fun e w' => ∃ v, e = .returned v ∧ w'.ownsRow w.heap.size 3 1 v n ((addL xs ((nats C).take m)).map (Value.int .i64)) ∧ Below w.heap.size w w' := by
  obtain ⟨i0, hi0, hz0, hz1, hz2⟩ := info_parts intInfo
  have hb0 : Below w.heap.size w (w.alloc (.cells #[] 3)) := (Below.refl _ _).alloc (Nat.le_refl _) _
  have HH := Lib.hid (hA.below hb0)
  have HB := Lib.hid hB
  have hcl : (nats C).length = n := by rw [nats_length, hC.length]; omega
  have HCL := Lib.hid hcl
  have HNX := Lib.hid (fun t b ht hb => best_next (t := t) (b := b) hr hrr h0 hC ht hb)
  have HXL := Lib.hid hx; have HRL := Lib.hid hr
  have HAB := Lib.hid (fun t => addL_bounds (-1125899906842624) 1125899906842624 ((nats C).take t) xs hxb (by omega) (by omega))
  clear hA hB hcl hrr h0 hxb
  go_enter Tryd.func20, Tryd.ntmps20
  go_wp2_with (first
    | (at_builtin; refine wpList_append_has rfl (.tmp 11) (.tmp 12) 22 rfl w.heap.size 3 i0 (.int .i64 0) 8 Tryd.underlying22 hi0 hz0 hz1 hz2 rfl _ 0 [] rfl (own_lit _ _) A n c _ rfl HH.out (by unfold maxLen; omega) (by omega) (by simp) ?_; intro v1 w1 hown1 hg1; have hb1 : Below w.heap.size w w1 := (hb0.grown hg1 (by simp) (fun g hg' => by cases hg'; exact Nat.le_refl _)); have HO1 := Lib.hid hown1; have hs1 := hb1.size; have HH2 := Lib.hid ((HB.out.below hb1).below ((Below.refl _ _).alloc (Nat.le_refl _) (.cells #[] 3))); clear hg1 hown1)
    | (at_builtin; refine wpList_append_has rfl (.tmp 14) (.tmp 15) 22 rfl w1.heap.size 3 i0 (.int .i64 0) 8 Tryd.underlying22 hi0 hz0 hz1 hz2 rfl _ 0 [] rfl (own_lit _ _) B n c' _ rfl HH2.out (by unfold maxLen; omega) (by omega) (by simp) ?_; intro v2 w2 hown2 hg2; have hb2 : Below w1.heap.size w1 w2 := (((Below.refl _ _).alloc (Nat.le_refl _) (.cells #[] 3)).grown hg2 (by simp) (fun g hg' => by cases hg'; exact Nat.le_refl _)); have HO2 := Lib.hid hown2; clear hg2 hown2))
  simp only [Nat.zero_add, List.nil_append] at HO1 HO2
  have hg1f : 0 < n → ∃ A c, v1 = .slice A n c ∧ ∃ g, A = some ⟨g, 0, none⟩ ∧ w.heap.size ≤ g ∧ g < w1.heap.size := fun h => by
    obtain ⟨A, c, e, _, hc⟩ := own_form HO1.out
    obtain ⟨g, e2, e3, e4, _⟩ := hc h
    exact ⟨A, c, e, g, e2, e3, e4⟩
  have hO2b : 0 < n → ∀ g c, v2 = .slice (some ⟨g, 0, none⟩) n c → w1.heap.size ≤ g := fun h g c e => by
    obtain ⟨A, c', e', _, hc⟩ := own_form HO2.out
    obtain ⟨g', e2, e3, _, _⟩ := hc h
    rw [e, e2] at e'
    injection e' with h1 h2 h3
    injection h1 with h1
    injection h1 with h1
    omega
  have hown1 := ownsRow_below HO1.out hb2
  have hbw : Below w.heap.size w w2 := hb1.trans (hb2.mono hs1)
  have hs2 := hb2.size
  clear hb1 HH HH2 HO1 hb0
  by_cases hn0 : n = 0
  · subst hn0
    obtain rfl : m = 0 := by omega
    have hown : w2.ownsRow w.heap.size 3 1 v1 0 ((addL xs ((nats C).take 0)).map (Value.int .i64)) := by simpa [addL] using hown1
    have HWN := Lib.hid hown; have HBW := Lib.hid hbw
    clear hown hbw
    go_loopw [2] (fun mv wr => mv = .int .i64 0 ∧ wr = w2) (fun _ _ => 0)
    case atStart => exact ⟨rfl, rfl⟩
    case round =>
      obtain ⟨rfl, rfl⟩ := hrel
      go_wp2_with fail
      go_ret
      exact ⟨v1, rfl, HWN.out, HBW.out⟩
  · have hn1 : 0 < n := by omega
    have hk1 := hg1f hn1
    obtain ⟨A1, c1, rfl, hc1⟩ := hk1
    obtain ⟨g1, rfl, hg1b, hg1l⟩ := hc1
    obtain ⟨A2, c2, rfl, _, hc2⟩ := own_form HO2.out
    obtain ⟨g2, rfl, hg2b, hg2l, _⟩ := hc2 hn1
    have h2 := hi_of_own HO2.out hr
    have hg2b' : w1.heap.size ≤ g2 := hg2b
    have hne : g2 ≠ g1 := by omega
    have hg2w : w.heap.size ≤ g2 := by omega
    have hown0 : w2.ownsRow w.heap.size 3 1 (.slice (some ⟨g1, 0, none⟩) n c1) n ((addL xs ((nats C).take 0)).map (Value.int .i64)) := by simpa [addL] using hown1
    have h20 : HI w2 g2 (markL rs ((nats C).take 0)) := by simpa [markL] using h2
    have HOWN0 := Lib.hid hown0; have H20 := Lib.hid h20
    clear hown1 HO2 h2 hown0 h20 hg2b hn0 hg1f hO2b hg2b'
    go_loopw [2, 9, 10] (fun mv b9 b10 wr => ∃ t : Nat, t ≤ m ∧ mv = .int .i64 ((m : Int) - t) ∧ Hid (wr.ownsRow w.heap.size 3 1 (.slice (some ⟨g1, 0, none⟩) n c1) n ((addL xs ((nats C).take t)).map (Value.int .i64))) ∧ Hid (HI wr g2 (markL rs ((nats C).take t))) ∧ Below w.heap.size w wr ∧ g2 < wr.heap.size) (fun mv _ _ _ => (intOf mv).toNat)
    case atStart => exact ⟨0, by omega, by simp, HOWN0, H20, hbw, hg2l⟩
    case round =>
      clear HOWN0 H20 hbw hs2 hg2l
      obtain ⟨t, ht, rfl, HO, HI2, hb, hg2⟩ := hrel
      have hs := hb.size
      by_cases htm : t < m
      · have hpos : (0 : Int) < (m : Int) - t := by omega
        obtain ⟨l, hl⟩ : ∃ l, markL rs ((nats C).take t) = l := ⟨_, rfl⟩
        have hll : l.length = n := by rw [← hl, markL_length]; exact HRL.out
        have HNB := Lib.hid (fun b hb => HNX.out t b (by omega) hb)
        rw [hl] at HI2 HNB
        have HL := Lib.hid hl
        clear hl
        go_wp2_with fail
        go_loopw [9, 10] (fun bv iv wx => ∃ (k q : Nat) (b : Int), iv = .int .i64 k ∧ k ≤ n ∧ bv = .int .i64 b ∧ wx = wr.drewN q ∧ Hid (Best l k b)) (fun _ iv _ => n - (intOf iv).toNat)
        case atStart => exact ⟨0, 0, -1, rfl, by omega, rfl, rfl, Lib.hid (Best.zero l)⟩
        case round =>
          obtain ⟨k, q, b, rfl, hk, rfl, rfl, HBE⟩ := hrel
          by_cases hkn : k < n
          · have e0 := (HI2.out k (by omega)).1
            have hkn' : (k : Int) < (n : Int) := by omega
            obtain ⟨x, hx⟩ : ∃ x, l.getD k 0 = x := ⟨_, rfl⟩
            rw [hx] at e0
            cases hx0 : decide (0 ≤ x)
            · have HB2 := Lib.hid (HBE.out.skip hx (.inl (by have := of_decide_eq_false hx0; omega)))
              clear hx HBE
              go_wp2_with fail
              go_quiet (fail)
              go_wp2_with fail
              go_roundw
              case rel => exact ⟨k + 1, _, b, by go_num, by omega, rfl, rfl, HB2⟩
              case measure => simp [intOf]; omega
            · have hx0' := of_decide_eq_true hx0
              have hbc : (b = -1) ∨ (∃ i : Nat, b = i ∧ i < k) := by
                rcases HBE.out with ⟨h, _⟩ | ⟨i, h1, h2, _⟩
                · exact .inl h
                · exact .inr ⟨i, h2, h1⟩
              rcases hbc with rfl | ⟨i, rfl, hik⟩
              · have HB2 := Lib.hid (HBE.out.take hx hx0' (.inl rfl))
                clear hx HBE hx0'
                go_wp2_with fail
                go_quiet (fail)
                go_wp2_with fail
                go_roundw
                case rel => exact ⟨k + 1, _, k, by go_num, by omega, rfl, rfl, HB2⟩
                case measure => simp [intOf]; omega
              · have e1 := (HI2.out i (by omega)).1
                obtain ⟨y, hy⟩ : ∃ y, l.getD i 0 = y := ⟨_, rfl⟩
                rw [hy] at e1
                have hik' : (i : Int) < (n : Int) := by omega
                have hi0 : decide ((i : Int) < 0) = false := decide_eq_false (by omega)
                cases hyx : decide (y < x)
                · have HB2 := Lib.hid (HBE.out.skip hx (.inr ⟨i, rfl, by have := of_decide_eq_false hyx; omega⟩))
                  clear hx HBE hx0' hy
                  go_wp2_with fail
                  go_quiet (fail)
                  go_wp2_with fail
                  go_roundw
                  case rel => exact ⟨k + 1, _, i, by go_num, by omega, rfl, rfl, HB2⟩
                  case measure => simp [intOf]; omega
                · have HB2 := Lib.hid (HBE.out.take hx hx0' (.inr ⟨i, rfl, by have := of_decide_eq_true hyx; omega⟩))
                  clear hx HBE hx0' hy
                  go_wp2_with fail
                  go_quiet (fail)
                  go_wp2_with fail
                  go_roundw
                  case rel => exact ⟨k + 1, _, k, by go_num, by omega, rfl, rfl, HB2⟩
                  case measure => simp [intOf]; omega
          · obtain rfl : k = n := by omega
            have HOq := Lib.hid (own_drewN HO.out q)
            have HIq := Lib.hid (hi_drewN HI2.out q)
            have hbq := below_drewN hb q
            have hgq : g2 < (wr.drewN q).heap.size := hg2
            clear HO HI2 hb hg2 hs
            generalize wr.drewN q = wq at *
            obtain ⟨c, hc⟩ : ∃ c, (nats C)[t]?.getD 0 = c := ⟨_, rfl⟩
            have hbn := HNB.out b HBE.out
            rw [hc] at hbn
            obtain ⟨rfl, hck⟩ := hbn
            have HTK := Lib.hid (nats_take (show t < (nats C).length by rw [HCL.out]; omega) hc)
            obtain ⟨o, ho⟩ : ∃ o, addL xs ((nats C).take t) = o := ⟨_, rfl⟩
            have hol : o.length = k := by rw [← ho, addL_length]; exact HXL.out
            have hob := HAB.out t
            rw [ho] at HOq hob
            have HSN : Hid (addL xs ((nats C).take (t + 1)) = o.set c (o[c]?.getD 0 + 1)) := Lib.hid (by rw [HTK.out, addL_snoc, ho])
            have HSM : Hid (markL rs ((nats C).take (t + 1)) = l.set c (-1)) := Lib.hid (by rw [HTK.out, markL_snoc, HL.out])
            have hov := hob (o[c]?.getD 0) (by rw [List.getElem?_eq_getElem (by omega)]; exact List.getElem_mem _)
            have htl : ((nats C).take t).length ≤ 4096 := by rw [List.length_take]; omega
            obtain ⟨p1, p2⟩ := hi_of_own HOq.out hol c (by omega)
            obtain ⟨p3, p4⟩ := HIq.out c (by omega)
            have hoc : o.getD c 0 = o[c]?.getD 0 := by simp [List.getD]
            rw [hoc] at p1
            obtain ⟨z, hz⟩ : ∃ z, o[c]?.getD 0 = z := ⟨_, rfl⟩
            rw [hz] at p1 hov HSN
            have hzb : -1125899906842624 ≤ z ∧ z ≤ 1125899906846720 := by omega
            have hck' : (c : Int) < (k : Int) := by omega
            have hcn : decide ((c : Int) < 0) = false := decide_eq_false (by omega)
            have RO : (wq.setCell ⟨g1, c, none⟩ (.int .i64 (z + 1))).ownsRow w.heap.size 3 1 (.slice (some ⟨g1, 0, none⟩) k c1) k ((addL xs ((nats C).take (t + 1))).map (Value.int .i64)) := by
              have := (World.ownsRow.stored HOq.out c (.int .i64 (z + 1))).1
              rw [HSN.out, List.map_set]
              exact this
            have RO2 := Lib.hid (ownsRow_setOther RO g2 c hne (.int .i64 (-1)))
            have RH2 : Hid (HI ((wq.setCell ⟨g1, c, none⟩ (.int .i64 (z + 1))).setCell ⟨g2, c, none⟩ (.int .i64 (-1))) g2 (markL rs ((nats C).take (t + 1)))) := Lib.hid (by
              rw [HSM.out]; exact (hi_setOther HIq.out (Ne.symm hne) (.int .i64 (z + 1))).set_ c (by omega) (-1))
            obtain ⟨p5, p6⟩ := hi_setOther HIq.out (Ne.symm hne) (.int .i64 (z + 1)) (j := c) c (by omega)
            have hms : (m : Int) - t - 1 = (m : Int) - ((t + 1 : Nat) : Int) := by omega
            have RB := Lib.hid ((hbq.setCell (p := ⟨g1, c, none⟩) hg1b (.int .i64 (z + 1))).setCell (p := ⟨g2, c, none⟩) hg2w (.int .i64 (-1)))
            clear hc HNB HBE HTK hob hov htl hol hll ho hoc hz RO HL HSN HSM
            go_wp2_with fail
            go_roundw
            case rel => exact ⟨t + 1, by omega, by congr 1, RO2, RH2, RB.out, by simpa [World.setCell] using hgq⟩
            case measure => simp [intOf]; omega
      · obtain rfl : t = m := by omega
        have hz : decide ((0 : Int) < (t : Int) - t) = false := decide_eq_false (by omega)
        rw [show (t : Int) - t = 0 by omega]
        go_wp2_with fail
        go_ret
        exact ⟨_, rfl, HO.out, hb⟩
end Go.Proofs.YtopngdjhnljmfaaDoor
