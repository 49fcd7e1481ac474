/- Walk: the law on the way back. -/
import Derived.Test.YtblhpbheejemnaaPkL1
import Derived.Test.YtblhpbheejemnaaPkZ
import Derived.Test.YtblhpbheejemnaaPkBN
import Derived.Deep.Cut
import Derived.Deep.CutRange
import Derived.Deep.QuietTactic
import Derived.BigQuiet
import Derived.Lib.ItoaWalk
namespace Go.Proofs.Ytblhpbheejemnaa
open Go.RowKit

theorem guardRec' : Try.prog.eqGuardType Try.prog.depth 31 = false := by kernel_rfl
set_option maxHeartbeats 1000000 in
theorem neqRec_same (r : Rc) (w : World) : (binOp .neq 31 (.agg r.cells) (.agg r.cells)).run Try.prog w = .ok (.bool false) w := by
  have u3 := Try.underlying3
  have a3 := Try.isAgg3
  have z3 := Try.sizeOf3
  have u4 := Try.underlying4
  have a4 := Try.isAgg4
  have z4 := Try.sizeOf4
  have u9 := Try.underlying9
  have a9 := Try.isAgg9
  have z9 := Try.sizeOf9
  have hS : Try.prog.underlying 31 = some (.struct (Try.prog.fieldsOf 31)) := by kernel_rfl
  have hp : Try.prog.stoodInHeld 31 = false := by kernel_rfl
  unfold Rc.cells
  rw [run_neq_struct, show (10000 : Nat) = 9999 + 1 from rfl, run_equalIn_agg w 9999 31 _ _ hS hp]
  simp only [Program.fieldsOf, Try.underlying31]
  go_simp
theorem dec_gives {w : World} {A : Option Addr} {n c : Nat} {l : List Int} {q : Rc} {x : Int} (h : Byt w A n c l) (hn : n ≤ 1000) (hd : decP l = (q, x)) :
    Calls Try.prog 16 #[.slice A n c] w fun e w' => e = .returned (.tuple #[.agg q.cells, .int .i64 x]) ∧ Below w.heap.size w w' := by
  have := decode_any h hn
  unfold DecOut at this
  rw [hd] at this
  exact this
theorem enc_gives {r : Rc} {x : Int} {B : List Int} (ha : r.sa.size ≤ maxLen) (hb : r.sb.size ≤ maxLen) (hx : chkR r = x) (hB : (if chkR r = 0 then encP r else []) = B) (w : World) :
    Calls Try.prog 14 #[.agg r.cells] w fun e w' => ∃ v, e = .returned (.tuple #[v, .int .i64 x]) ∧ Own w' w.heap.size v B ∧ Below w.heap.size w w' := by
  have := encode_any r ha hb w
  unfold EncOut at this
  rw [hB, hx] at this
  exact this
theorem own_byt {w : World} {base g n q : Nat} {L : List Int} (h : Own w base (.slice (some ⟨g, 0, none⟩) n q) L) : Byt w (some ⟨g, 0, none⟩) n q L := by
  obtain ⟨A, m, c, hv, -, y⟩ := h.bytm
  injection hv with h1 h2 h3
  subst h1 h2 h3
  exact y
theorem dec_sizes {l : List Int} {q : Rc} {x : Int} (h : decP l = (q, x)) : q.sa.size ≤ maxLen ∧ q.sb.size ≤ maxLen := by
  have key : ∀ T, (rdR T).sa.size ≤ maxLen ∧ (rdR T).sb.size ≤ maxLen := fun T => ⟨Nat.le_trans txt_size (by unfold maxLen; decide), Nat.le_trans txt_size (by unfold maxLen; decide)⟩
  have kz : rcZ.sa.size ≤ maxLen ∧ rcZ.sb.size ≤ maxLen := ⟨Nat.zero_le _, Nat.zero_le _⟩
  unfold decP at h
  split at h
  · exact (Prod.mk.inj h).1 ▸ kz
  · split at h
    · exact (Prod.mk.inj h).1 ▸ kz
    · split at h
      · exact (Prod.mk.inj h).1 ▸ kz
      · split at h
        · exact (Prod.mk.inj h).1 ▸ kz
        · split at h
          · exact (Prod.mk.inj h).1 ▸ kz
          · exact (Prod.mk.inj h).1 ▸ key _
set_option maxRecDepth 100000 in
set_option maxHeartbeats 16000000 in
theorem walkPackedBack (r : Rc) (A : Option Addr) (m c : Nat) (zs : List Int) (ix tb : Int) (w : World) (hr : IsRow .u8 w A m c zs) (htb : 0 ≤ tb ∧ tb ≤ 255) :
    Calls Try.prog 6 #[.agg r.cells, .slice A m c, .agg #[.int .i64 ix, .int .u8 tb]] w fun e w' => e = .returned (.bool true) ∧ Below w.heap.size w w' := by
  obtain ⟨i0, hi0, hz0, hz1, hz2⟩ := info_parts byteInfo
  have HAL := Lib.hid alive_any
  have HSH := Lib.hid (short_any r)
  have hA := byt_of_row hr
  obtain ⟨l, hl⟩ : ∃ l, zs.take m = l := ⟨_, rfl⟩
  rw [hl] at hA
  have HA := Lib.hid hA
  obtain ⟨L, hL, hL0, hx, hLs⟩ := rec_world w r
  obtain ⟨L2, hL2⟩ : ∃ L2, L.alloc (.cells #[.int .i64 ix, .int .u8 tb] 38) = L2 := ⟨_, rfl⟩
  have hb2 : Below L.heap.size L L2 := hL2 ▸ below_lit L _
  have HX := Lib.hid (hx.below hb2 (heap_lt hx))
  have HCH : Hid (L2.heap[L.heap.size]? = some (.cells #[.int .i64 ix, .int .u8 tb] 38 (0, 0))) := Lib.hid (hL2 ▸ heap_alloc_new L _)
  have HL0 := Lib.hid (hL0.trans (hb2.mono hL0.size))
  have HXZ : Hid (w.heap.size < L2.heap.size) := Lib.hid (heap_lt HX.out)
  have HCC : Hid (∀ W, Below L2.heap.size L2 W → W.cell? ⟨L.heap.size, 0, none⟩ = some (.int .i64 ix) ∧ W.cell? ⟨L.heap.size, 1, none⟩ = some (.int .u8 tb)) := Lib.hid (fun W hb => by
    have hh := (hb.block _ (heap_lt HCH.out)).trans HCH.out
    exact ⟨by rw [cell_of_row W _ 0 _ _ _ hh]; rfl, by rw [cell_of_row W _ 1 _ _ _ hh]; rfl⟩)
  obtain ⟨e0, e1⟩ := HCC.out L2 (Below.refl _ _)
  obtain ⟨c0, c1, c2, c3, c4, c5, c6, c7, c8, c9, c10, c11⟩ := HX.out.cells
  clear hx hL0 hLs hb2 hr hA hl
  by_cases hs : shR r = true
  · obtain ⟨ha, hb⟩ := shR_of hs
    rw [hs] at HSH
    by_cases hm : m ≤ 200
    · have dm : decide (200 < (m : Int)) = false := decide_eq_false (by omega)
      obtain ⟨x, hx⟩ : ∃ x, chkR r = x := ⟨_, rfl⟩
      obtain ⟨B, hB⟩ : ∃ B, (if chkR r = 0 then encP r else []) = B := ⟨_, rfl⟩
      have HEN := Lib.hid (enc_gives ha hb hx hB)
      have HBE : Hid (x = 0 → encP r = B ∧ chkR r = 0) := Lib.hid (fun h => by rw [hx, h] at hB; exact ⟨by rw [← hB, if_pos rfl], by rw [hx, h]⟩)
      have HNQ := Lib.hid (neqRec_same r)
      have HDE : Hid (chkR r = 0 → decP (encP r) = (r, 0)) := Lib.hid dec_enc
      have HDS : Hid (∀ {i : Nat} {x y : Int}, (encP r)[i]? = some y → 0 ≤ y → y ≤ 255 → 0 ≤ x → x ≤ 255 → y ≠ x → decP ((encP r).set i x) = (rcZ, 4)) := Lib.hid dec_set
      have HEL := Lib.hid (enc_len r)
      obtain ⟨EP, hEP⟩ : ∃ EP, encP r = EP := ⟨_, rfl⟩
      rw [hEP] at HBE HDE HDS HEL
      have HMM := Lib.hid hm
      clear hs ha hb hx hB hEP hm
      obtain ⟨s0, s1, s2, sa, sb, s5, s6, s7, s8, b9, s10, b11⟩ := r
      have hnq := HNQ.out
      have gq := guardRec'
      unfold Rc.cells at HSH HEN hL hnq ⊢
      simp only at hL HSH HEN hnq c0 c1 c2 c3 c4 c5 c6 c7 c8 c9 c10 c11 ⊢
      go_enter Try.func6, Try.ntmps6
      go_upto_if 33 with (first
        | (go_at_call 13; (with_reducible refine (HSH.out _).mono ?_); rintro e w1 ⟨rfl, hb1⟩; have HB1 := Lib.hid hb1; have HX1 := Lib.hid (HX.out.below hb1 HXZ.out); clear hb1 e0 e1 c0 c1 c2 c3 c4 c5 c6 c7 c8 c9 c10 c11; obtain ⟨c0, c1, c2, c3, c4, c5, c6, c7, c8, c9, c10, c11⟩ := HX1.out.cells; simp only at c0 c1 c2 c3 c4 c5 c6 c7 c8 c9 c10 c11)
        | (go_at_call 14; (with_reducible refine (HEN.out _).mono ?_); rintro e w2 ⟨v2, rfl, ho2, hb2⟩; have HO2 := Lib.hid ho2; have HW2 := Lib.hid hb2; have HB2 := Lib.hid (HB1.out.trans (hb2.mono HB1.out.size)); have HX2 := Lib.hid (HX1.out.below hb2 (Nat.lt_of_lt_of_le HXZ.out HB1.out.size)); clear ho2 hb2 c0 c1 c2 c3 c4 c5 c6 c7 c8 c9 c10 c11))
      go_cut [7] from 8 to 111 (fun s7 wx => Below L2.heap.size L2 wx)
      case first =>
        by_cases hx0 : x = 0
        · obtain ⟨hBE, hck⟩ := HBE.out hx0
          subst hx0 hBE
          have HDQ := Lib.hid (HDE.out hck)
          clear hck
          obtain ⟨g2, q2, rfl, hg2, hgl2, hqc⟩ := own_some HO2.out (by rw [HEL.out]; decide)
          have hel := HEL.out
          rw [hel] at HO2 hqc ⊢
          have HY2 := Lib.hid (own_byt HO2.out)
          have HG2 := Lib.hid hg2
          clear hel hg2 hgl2
          by_cases i0' : ix < 0
          · have di : decide (0 ≤ ix) = false := decide_eq_false (by omega)
            clear i0'
            go_wp2_with (go_at_call 16; have hd := dec_gives HY2.out (by decide) HDQ.out; simp only [Rc.cells] at hd; (with_reducible refine hd.mono ?_); clear hd; rintro e w3 ⟨rfl, hb3⟩; have HB3 := Lib.hid ((HB2.out.trans (hb3.mono HB2.out.size)).alloc (Nat.le_trans HB2.out.size hb3.size) (.cells #[.int .i64 s0, .int .i64 s1, .int .i64 s2, .string sa, .string sb, .int .i64 s5, .int .i64 s6, .int .i64 s7, .int .i64 s8, .bool b9, .int .i64 s10, .bool b11] 31)); have HR3 : Hid (RcB (w3.alloc (.cells #[.int .i64 s0, .int .i64 s1, .int .i64 s2, .string sa, .string sb, .int .i64 s5, .int .i64 s6, .int .i64 s7, .int .i64 s8, .bool b9, .int .i64 s10, .bool b11] 31)) w3.heap.size ⟨s0, s1, s2, sa, sb, s5, s6, s7, s8, b9, s10, b11⟩) := Lib.hid (heap_alloc_new w3 _); have HX3 := Lib.hid ((HX2.out.below hb3 (Nat.lt_of_lt_of_le HXZ.out HB2.out.size)).below (below_lit w3 (.cells #[.int .i64 s0, .int .i64 s1, .int .i64 s2, .string sa, .string sb, .int .i64 s5, .int .i64 s6, .int .i64 s7, .int .i64 s8, .bool b9, .int .i64 s10, .bool b11] 31)) (Nat.lt_of_lt_of_le HXZ.out (Nat.le_trans HB2.out.size hb3.size))); have HO3 : Hid (Own (w3.alloc (.cells #[.int .i64 s0, .int .i64 s1, .int .i64 s2, .string sa, .string sb, .int .i64 s5, .int .i64 s6, .int .i64 s7, .int .i64 s8, .bool b9, .int .i64 s10, .bool b11] 31)) w1.heap.size (.slice (some ⟨g2, 0, none⟩) 45 q2) EP) := Lib.hid ((HO2.out.below hb3).below (below_lit w3 (.cells #[.int .i64 s0, .int .i64 s1, .int .i64 s2, .string sa, .string sb, .int .i64 s5, .int .i64 s6, .int .i64 s7, .int .i64 s8, .bool b9, .int .i64 s10, .bool b11] 31))); obtain ⟨k0, k1, k2, k3, k4, k5, k6, k7, k8, k9, k10, k11⟩ := HR3.out.cells; simp only at k0 k1 k2 k3 k4 k5 k6 k7 k8 k9 k10 k11; obtain ⟨c0, c1, c2, c3, c4, c5, c6, c7, c8, c9, c10, c11⟩ := HX3.out.cells; simp only at c0 c1 c2 c3 c4 c5 c6 c7 c8 c9 c10 c11; obtain ⟨e0, e1⟩ := HCC.out _ HB3.out; clear hb3)
            go_quiet (fail)
            go_wp2_with fail
            go_meet
            case rel => exact below_drawn HB3.out _
          · obtain ⟨k, rfl⟩ := Int.eq_ofNat_of_zero_le (show 0 ≤ ix by omega)
            have di : decide ((0 : Int) ≤ (k : Int)) = true := decide_eq_true (by omega)
            have di2 : (0 : Int) ≤ (k : Int) := by omega
            by_cases i1 : k < 45
            · have dj : decide ((k : Int) < 45) = true := decide_eq_true (by omega)
              have dj2 : (k : Int) < 45 := by omega
              obtain ⟨y, hy⟩ : ∃ y, EP[k]? = some y := ⟨_, List.getElem?_eq_getElem (by rw [HEL.out]; exact i1)⟩
              have HYK := Lib.hid hy
              have hyr := HO2.out.2 y (List.mem_of_getElem? hy)
              obtain ⟨y0, y1⟩ := hyr
              by_cases hyt : y = tb
              · subst hyt
                have dq : (y != y) = false := by simp
                go_wp2_with (go_at_call 16; have hd := dec_gives HY2.out (by decide) HDQ.out; simp only [Rc.cells] at hd; (with_reducible refine hd.mono ?_); clear hd; rintro e w3 ⟨rfl, hb3⟩; have HB3 := Lib.hid ((HB2.out.trans (hb3.mono HB2.out.size)).alloc (Nat.le_trans HB2.out.size hb3.size) (.cells #[.int .i64 s0, .int .i64 s1, .int .i64 s2, .string sa, .string sb, .int .i64 s5, .int .i64 s6, .int .i64 s7, .int .i64 s8, .bool b9, .int .i64 s10, .bool b11] 31)); have HR3 : Hid (RcB (w3.alloc (.cells #[.int .i64 s0, .int .i64 s1, .int .i64 s2, .string sa, .string sb, .int .i64 s5, .int .i64 s6, .int .i64 s7, .int .i64 s8, .bool b9, .int .i64 s10, .bool b11] 31)) w3.heap.size ⟨s0, s1, s2, sa, sb, s5, s6, s7, s8, b9, s10, b11⟩) := Lib.hid (heap_alloc_new w3 _); have HX3 := Lib.hid ((HX2.out.below hb3 (Nat.lt_of_lt_of_le HXZ.out HB2.out.size)).below (below_lit w3 (.cells #[.int .i64 s0, .int .i64 s1, .int .i64 s2, .string sa, .string sb, .int .i64 s5, .int .i64 s6, .int .i64 s7, .int .i64 s8, .bool b9, .int .i64 s10, .bool b11] 31)) (Nat.lt_of_lt_of_le HXZ.out (Nat.le_trans HB2.out.size hb3.size))); have HO3 : Hid (Own (w3.alloc (.cells #[.int .i64 s0, .int .i64 s1, .int .i64 s2, .string sa, .string sb, .int .i64 s5, .int .i64 s6, .int .i64 s7, .int .i64 s8, .bool b9, .int .i64 s10, .bool b11] 31)) w1.heap.size (.slice (some ⟨g2, 0, none⟩) 45 q2) EP) := Lib.hid ((HO2.out.below hb3).below (below_lit w3 (.cells #[.int .i64 s0, .int .i64 s1, .int .i64 s2, .string sa, .string sb, .int .i64 s5, .int .i64 s6, .int .i64 s7, .int .i64 s8, .bool b9, .int .i64 s10, .bool b11] 31))); obtain ⟨k0, k1, k2, k3, k4, k5, k6, k7, k8, k9, k10, k11⟩ := HR3.out.cells; simp only at k0 k1 k2 k3 k4 k5 k6 k7 k8 k9 k10 k11; obtain ⟨c0, c1, c2, c3, c4, c5, c6, c7, c8, c9, c10, c11⟩ := HX3.out.cells; simp only at c0 c1 c2 c3 c4 c5 c6 c7 c8 c9 c10 c11; obtain ⟨e0, e1⟩ := HCC.out _ HB3.out; obtain ⟨a1, a2⟩ := own_cellk HO3.out (k := k) (by rw [HEL.out]; exact i1); have ek : EP[k]'(by rw [HEL.out]; exact i1) = y := (by have h := HYK.out; rw [List.getElem?_eq_getElem (by rw [HEL.out]; exact i1)] at h; exact Option.some.inj h); rw [ek] at a1; clear ek; clear hb3)
                go_quiet (fail)
                go_wp2_with fail
                go_meet
                case rel => exact below_drawn HB3.out _
              · have dq : (y != tb) = true := by simp [hyt]
                have HDX := Lib.hid (HDS.out hy y0 y1 htb.1 htb.2 hyt)
                clear hyt hy
                go_wp2_with (go_at_call 16; have hd := dec_gives HY2.out (by decide) HDQ.out; simp only [Rc.cells] at hd; (with_reducible refine hd.mono ?_); clear hd; rintro e w3 ⟨rfl, hb3⟩; have HB3 := Lib.hid ((HB2.out.trans (hb3.mono HB2.out.size)).alloc (Nat.le_trans HB2.out.size hb3.size) (.cells #[.int .i64 s0, .int .i64 s1, .int .i64 s2, .string sa, .string sb, .int .i64 s5, .int .i64 s6, .int .i64 s7, .int .i64 s8, .bool b9, .int .i64 s10, .bool b11] 31)); have HR3 : Hid (RcB (w3.alloc (.cells #[.int .i64 s0, .int .i64 s1, .int .i64 s2, .string sa, .string sb, .int .i64 s5, .int .i64 s6, .int .i64 s7, .int .i64 s8, .bool b9, .int .i64 s10, .bool b11] 31)) w3.heap.size ⟨s0, s1, s2, sa, sb, s5, s6, s7, s8, b9, s10, b11⟩) := Lib.hid (heap_alloc_new w3 _); have HX3 := Lib.hid ((HX2.out.below hb3 (Nat.lt_of_lt_of_le HXZ.out HB2.out.size)).below (below_lit w3 (.cells #[.int .i64 s0, .int .i64 s1, .int .i64 s2, .string sa, .string sb, .int .i64 s5, .int .i64 s6, .int .i64 s7, .int .i64 s8, .bool b9, .int .i64 s10, .bool b11] 31)) (Nat.lt_of_lt_of_le HXZ.out (Nat.le_trans HB2.out.size hb3.size))); have HO3 : Hid (Own (w3.alloc (.cells #[.int .i64 s0, .int .i64 s1, .int .i64 s2, .string sa, .string sb, .int .i64 s5, .int .i64 s6, .int .i64 s7, .int .i64 s8, .bool b9, .int .i64 s10, .bool b11] 31)) w1.heap.size (.slice (some ⟨g2, 0, none⟩) 45 q2) EP) := Lib.hid ((HO2.out.below hb3).below (below_lit w3 (.cells #[.int .i64 s0, .int .i64 s1, .int .i64 s2, .string sa, .string sb, .int .i64 s5, .int .i64 s6, .int .i64 s7, .int .i64 s8, .bool b9, .int .i64 s10, .bool b11] 31))); obtain ⟨k0, k1, k2, k3, k4, k5, k6, k7, k8, k9, k10, k11⟩ := HR3.out.cells; simp only at k0 k1 k2 k3 k4 k5 k6 k7 k8 k9 k10 k11; obtain ⟨c0, c1, c2, c3, c4, c5, c6, c7, c8, c9, c10, c11⟩ := HX3.out.cells; simp only at c0 c1 c2 c3 c4 c5 c6 c7 c8 c9 c10 c11; obtain ⟨e0, e1⟩ := HCC.out _ HB3.out; obtain ⟨a1, a2⟩ := own_cellk HO3.out (k := k) (by rw [HEL.out]; exact i1); have ek : EP[k]'(by rw [HEL.out]; exact i1) = y := (by have h := HYK.out; rw [List.getElem?_eq_getElem (by rw [HEL.out]; exact i1)] at h; exact Option.some.inj h); rw [ek] at a1; clear ek; clear hb3)
                go_quiet (fail)
                generalize hW4 : World.drewN (w3.alloc (.cells #[.int .i64 s0, .int .i64 s1, .int .i64 s2, .string sa, .string sb, .int .i64 s5, .int .i64 s6, .int .i64 s7, .int .i64 s8, .bool b9, .int .i64 s10, .bool b11] 31)) _ = W4
                have hb4 : Below (w3.alloc (.cells #[.int .i64 s0, .int .i64 s1, .int .i64 s2, .string sa, .string sb, .int .i64 s5, .int .i64 s6, .int .i64 s7, .int .i64 s8, .bool b9, .int .i64 s10, .bool b11] 31)).heap.size (w3.alloc (.cells #[.int .i64 s0, .int .i64 s1, .int .i64 s2, .string sa, .string sb, .int .i64 s5, .int .i64 s6, .int .i64 s7, .int .i64 s8, .bool b9, .int .i64 s10, .bool b11] 31)) W4 := by rw [← hW4]; exact below_drawn (Below.refl _ _) _
                clear hW4 a1 a2 e0 e1 c0 c1 c2 c3 c4 c5 c6 c7 c8 c9 c10 c11 k0 k1 k2 k3 k4 k5 k6 k7 k8 k9 k10 k11
                have HB4 := Lib.hid (HB3.out.trans (hb4.mono HB3.out.size))
                have HO4 := Lib.hid (HO3.out.below hb4)
                have HH4 := Lib.hid ((own_byt HO4.out).below (below_lit W4 (.cells #[] 5))).has
                have HW4 := Lib.hid (below_lit W4 (.cells #[] 5))
                clear hb4
                go_wp2_with (first
                  | (at_builtin; refine wpList_append_has rfl (.tmp 71) (.tmp 72) 22 rfl W4.heap.size 5 i0 _ 1 Try.underlying22 hi0 hz0 hz1 hz2 rfl (.slice (some ⟨W4.heap.size, 0, none⟩) 0 0) 0 [] rfl (own_lit W4 5) (some ⟨g2, 0, none⟩) 45 q2 (C8 EP) rfl HH4.out (by unfold maxLen; omega) (by omega) HW4.out.size ?_; intro v5 w5 q5 q6; have HO5 : Hid (Own w5 W4.heap.size v5 EP) := Lib.hid ⟨(by have h := q5; rw [List.nil_append, Nat.zero_add] at h; rw [HEL.out]; exact h), HO4.out.2⟩; have hb5 : Below W4.heap.size W4 w5 := HW4.out.grown q6 HW4.out.size (fun g hg => (by obtain rfl : W4.heap.size = g := (by simpa [Value.ownBlock] using hg); exact Nat.le_refl _)); have HB5 := Lib.hid (HB4.out.trans (hb5.mono HB4.out.size)); clear q5 q6; obtain ⟨g5, c5, rfl, hg5, hgl5, hqc5⟩ := own_some HO5.out (by rw [HEL.out]; decide); have hel5 := HEL.out; rw [hel5] at HO5 hqc5; rw [hel5]; clear hel5; obtain ⟨a1, a2⟩ := own_cellk HO5.out (k := k) (by rw [HEL.out]; exact i1); obtain ⟨e0, e1⟩ := HCC.out _ HB5.out; have HO6 := Lib.hid (own_set HO5.out (k := k) (y := tb) (by rw [HEL.out]; exact i1) htb.1 htb.2); have HB6 : Hid (Below L2.heap.size L2 (w5.setCell ⟨g5, k, none⟩ (.int .u8 tb))) := Lib.hid (HB5.out.setCell (Nat.le_trans HB4.out.size hg5) _); have HY6 := Lib.hid (own_byt HO6.out); clear hb5)
                  | (go_at_call 16; have hd := dec_gives HY6.out (by decide) HDX.out; simp only [Rc.cells, rcZ] at hd; (with_reducible refine hd.mono ?_); clear hd; rintro e w7 ⟨rfl, hb7⟩; have HB7 := Lib.hid (HB6.out.trans (hb7.mono HB6.out.size)); clear hb7))
                go_meet
                case rel => exact HB7.out.alloc HB7.out.size _
            · have dj : decide ((k : Int) < 45) = false := decide_eq_false (by omega)
              go_wp2_with (go_at_call 16; have hd := dec_gives HY2.out (by decide) HDQ.out; simp only [Rc.cells] at hd; (with_reducible refine hd.mono ?_); clear hd; rintro e w3 ⟨rfl, hb3⟩; have HB3 := Lib.hid ((HB2.out.trans (hb3.mono HB2.out.size)).alloc (Nat.le_trans HB2.out.size hb3.size) (.cells #[.int .i64 s0, .int .i64 s1, .int .i64 s2, .string sa, .string sb, .int .i64 s5, .int .i64 s6, .int .i64 s7, .int .i64 s8, .bool b9, .int .i64 s10, .bool b11] 31)); have HR3 : Hid (RcB (w3.alloc (.cells #[.int .i64 s0, .int .i64 s1, .int .i64 s2, .string sa, .string sb, .int .i64 s5, .int .i64 s6, .int .i64 s7, .int .i64 s8, .bool b9, .int .i64 s10, .bool b11] 31)) w3.heap.size ⟨s0, s1, s2, sa, sb, s5, s6, s7, s8, b9, s10, b11⟩) := Lib.hid (heap_alloc_new w3 _); have HX3 := Lib.hid ((HX2.out.below hb3 (Nat.lt_of_lt_of_le HXZ.out HB2.out.size)).below (below_lit w3 (.cells #[.int .i64 s0, .int .i64 s1, .int .i64 s2, .string sa, .string sb, .int .i64 s5, .int .i64 s6, .int .i64 s7, .int .i64 s8, .bool b9, .int .i64 s10, .bool b11] 31)) (Nat.lt_of_lt_of_le HXZ.out (Nat.le_trans HB2.out.size hb3.size))); have HO3 : Hid (Own (w3.alloc (.cells #[.int .i64 s0, .int .i64 s1, .int .i64 s2, .string sa, .string sb, .int .i64 s5, .int .i64 s6, .int .i64 s7, .int .i64 s8, .bool b9, .int .i64 s10, .bool b11] 31)) w1.heap.size (.slice (some ⟨g2, 0, none⟩) 45 q2) EP) := Lib.hid ((HO2.out.below hb3).below (below_lit w3 (.cells #[.int .i64 s0, .int .i64 s1, .int .i64 s2, .string sa, .string sb, .int .i64 s5, .int .i64 s6, .int .i64 s7, .int .i64 s8, .bool b9, .int .i64 s10, .bool b11] 31))); obtain ⟨k0, k1, k2, k3, k4, k5, k6, k7, k8, k9, k10, k11⟩ := HR3.out.cells; simp only at k0 k1 k2 k3 k4 k5 k6 k7 k8 k9 k10 k11; obtain ⟨c0, c1, c2, c3, c4, c5, c6, c7, c8, c9, c10, c11⟩ := HX3.out.cells; simp only at c0 c1 c2 c3 c4 c5 c6 c7 c8 c9 c10 c11; obtain ⟨e0, e1⟩ := HCC.out _ HB3.out; clear hb3)
              go_quiet (fail)
              go_wp2_with fail
              go_meet
              case rel => exact below_drawn HB3.out _
        · have hxe : (x == 0) = false := by simp [hx0]
          clear hx0
          go_wp2_with fail
          go_meet
          case rel => exact HB2.out
      case rest =>
        have HBC := Lib.hid hcut
        have HBW := Lib.hid (HL0.out.trans (hcut.mono HL0.out.size))
        clear hcut
        obtain ⟨⟨q, f⟩, hqf⟩ : ∃ p, decP l = p := ⟨_, rfl⟩
        have HD := Lib.hid (fun W (hb : Below w.heap.size w W) => dec_gives (HA.out.below hb) (by have := HMM.out; omega) hqf)
        by_cases hf : f = 0
        · subst hf
          obtain ⟨-, hcq, hbq⟩ := enc_dec HA.out.ran hqf
          obtain ⟨z1, z2⟩ := dec_sizes hqf
          have HE := Lib.hid (enc_gives z1 z2 hcq (by rw [if_pos hcq, hbq]))
          obtain ⟨n0, n1, n2, na, nb, n5, n6, n7, n8, d9, n10, d11⟩ := q
          simp only [Rc.cells] at HD HE
          clear hqf hcq hbq z1 z2
          go_wp2_with (first
            | (go_at_call 16; (with_reducible refine (HD.out _ HBW.out).mono ?_); rintro e w3 ⟨rfl, hb3⟩; have HB3 := Lib.hid ((HBW.out.trans (hb3.mono HBW.out.size)).alloc (Nat.le_trans HBW.out.size hb3.size) (.cells #[.int .i64 n0, .int .i64 n1, .int .i64 n2, .string na, .string nb, .int .i64 n5, .int .i64 n6, .int .i64 n7, .int .i64 n8, .bool d9, .int .i64 n10, .bool d11] 31)); have HR3 : Hid (RcB (w3.alloc (.cells #[.int .i64 n0, .int .i64 n1, .int .i64 n2, .string na, .string nb, .int .i64 n5, .int .i64 n6, .int .i64 n7, .int .i64 n8, .bool d9, .int .i64 n10, .bool d11] 31)) w3.heap.size ⟨n0, n1, n2, na, nb, n5, n6, n7, n8, d9, n10, d11⟩) := Lib.hid (heap_alloc_new w3 _); obtain ⟨k0, k1, k2, k3, k4, k5, k6, k7, k8, k9, k10, k11⟩ := HR3.out.cells; simp only at k0 k1 k2 k3 k4 k5 k6 k7 k8 k9 k10 k11; clear hb3)
            | (go_at_call 14; (with_reducible refine (HE.out _).mono ?_); rintro e w4 ⟨v4, rfl, ho4, hb4⟩; obtain ⟨A4, m4, q4, rfl, -, y4⟩ := ho4.bytm; have HB4 := Lib.hid (HB3.out.trans (hb4.mono HB3.out.size)); have cv1 := byt_conv y4; have cv2 := byt_conv (HA.out.below HB4.out); clear ho4 hb4 y4 k0 k1 k2 k3 k4 k5 k6 k7 k8 k9 k10 k11)
            | (go_at_call 8; (with_reducible refine (HAL.out _).mono ?_); rintro e w5 ⟨rfl, hb5⟩; have HB5 := Lib.hid (HB4.out.trans (hb5.mono HB4.out.size)); clear hb5))
          go_ret
          exact ⟨rfl, HB5.out⟩
        · have hfn : (f != 0) = true := by simp [hf]
          clear hf hqf
          obtain ⟨n0, n1, n2, na, nb, n5, n6, n7, n8, d9, n10, d11⟩ := q
          simp only [Rc.cells] at HD
          go_wp2_with (first
            | (go_at_call 16; (with_reducible refine (HD.out _ HBW.out).mono ?_); rintro e w3 ⟨rfl, hb3⟩; have HB3 := Lib.hid ((HBW.out.trans (hb3.mono HBW.out.size)).alloc (Nat.le_trans HBW.out.size hb3.size) (.cells #[.int .i64 n0, .int .i64 n1, .int .i64 n2, .string na, .string nb, .int .i64 n5, .int .i64 n6, .int .i64 n7, .int .i64 n8, .bool d9, .int .i64 n10, .bool d11] 31)); clear hb3)
            | (go_at_call 8; (with_reducible refine (HAL.out _).mono ?_); rintro e w5 ⟨rfl, hb5⟩; have HB5 := Lib.hid (HB3.out.trans (hb5.mono HB3.out.size)); clear hb5))
          go_ret
          exact ⟨rfl, HB5.out⟩
    · have dm : decide (200 < (m : Int)) = true := decide_eq_true (by omega)
      clear hs ha hb hm
      obtain ⟨s0, s1, s2, sa, sb, s5, s6, s7, s8, b9, s10, b11⟩ := r
      unfold Rc.cells at HSH hL ⊢
      simp only at hL HSH c0 c1 c2 c3 c4 c5 c6 c7 c8 c9 c10 c11 ⊢
      go_enter Try.func6, Try.ntmps6
      go_wp2_with (first
        | (go_at_call 13; (with_reducible refine (HSH.out _).mono ?_); rintro e w1 ⟨rfl, hb1⟩; have HB1 := Lib.hid hb1; clear hb1)
        | (go_at_call 8; (with_reducible refine (HAL.out _).mono ?_); rintro e w4 ⟨rfl, hb4⟩; have HB4 := Lib.hid (HB1.out.trans (hb4.mono HB1.out.size)); clear hb4))
      go_ret
      exact ⟨rfl, HL0.out.trans (HB4.out.mono HL0.out.size)⟩
  · rw [Bool.not_eq_true] at hs
    rw [hs] at HSH
    clear hs
    obtain ⟨s0, s1, s2, sa, sb, s5, s6, s7, s8, b9, s10, b11⟩ := r
    unfold Rc.cells at HSH hL ⊢
    simp only at hL HSH c0 c1 c2 c3 c4 c5 c6 c7 c8 c9 c10 c11 ⊢
    go_enter Try.func6, Try.ntmps6
    go_wp2_with (first
      | (go_at_call 13; (with_reducible refine (HSH.out _).mono ?_); rintro e w1 ⟨rfl, hb1⟩; have HB1 := Lib.hid hb1; clear hb1)
      | (go_at_call 8; (with_reducible refine (HAL.out _).mono ?_); rintro e w4 ⟨rfl, hb4⟩; have HB4 := Lib.hid (HB1.out.trans (hb4.mono HB1.out.size)); clear hb4))
    go_ret
    exact ⟨rfl, HL0.out.trans (HB4.out.mono HL0.out.size)⟩
end Go.Proofs.Ytblhpbheejemnaa
