/- Walk: the law on the way back. -/
import Derived.Test.YtinnmnhaeejfdaaTgBM
import Derived.Test.YtinnmnhaeejfdaaTgDec
import Derived.Test.YtinnmnhaeejfdaaTgAwk
import Derived.Test.YtinnmnhaeejfdaaTgLN
import Derived.Deep.Cut
import Derived.Deep.CutRange
import Derived.Deep.QuietTactic
import Derived.BigQuiet
namespace Go.Proofs.Ytinnmnhaeejfdaa
open Go.RowKit

theorem guardRec' : Try.prog.eqGuardType Try.prog.depth 34 = false := by kernel_rfl
set_option maxHeartbeats 1000000 in
theorem neqRec_same (r : Rc) (w : World) : (binOp .neq 34 (.agg r.cells) (.agg r.cells)).run Try.prog w = .ok (.bool false) w := by
  have u3 := Try.underlying3
  have a3 := Try.isAgg3
  have z3 := Try.sizeOf3
  have u4 := Try.underlying4
  have a4 := Try.isAgg4
  have z4 := Try.sizeOf4
  have u9 := Try.underlying9
  have a9 := Try.isAgg9
  have z9 := Try.sizeOf9
  have hS : Try.prog.underlying 34 = some (.struct (Try.prog.fieldsOf 34)) := by kernel_rfl
  have hp : Try.prog.stoodInHeld 34 = false := by kernel_rfl
  unfold Rc.cells
  rw [run_neq_struct, show (10000 : Nat) = 9999 + 1 from rfl, run_equalIn_agg w 9999 34 _ _ hS hp]
  simp only [Program.fieldsOf, Try.underlying34]
  go_simp
theorem dec_gives {w : World} {A : Option Addr} {n c : Nat} {l : List Int} {q : Rc} {x : Int} (h : Byt w A n c l) (hn : n ≤ 1000) (hd : decR l = (q, x)) :
    Calls Try.prog 19 #[.slice A n c] w fun e w' => e = .returned (.tuple #[.agg q.cells, .int .i64 x]) ∧ Below w.heap.size w w' := by
  have := decode_any h (by omega)
  unfold DecP at this
  rw [hd] at this
  exact this
theorem enc_gives {r : Rc} {x : Int} {B : List Int} (ha : r.sa.size ≤ maxLen) (hb : r.sb.size ≤ maxLen) (hx : chkR r = x) (hB : (if chkR r = 0 then encB r else []) = B) (w : World) :
    Calls Try.prog 17 #[.agg r.cells] w fun e w' => ∃ v, e = .returned (.tuple #[v, .int .i64 x]) ∧ Own w' w.heap.size v B ∧ Below w.heap.size w w' := by
  have := encode_any r ha hb w
  rw [hB, hx] at this
  exact this
theorem own_byt {w : World} {base g n q : Nat} {L : List Int} (h : Own w base (.slice (some ⟨g, 0, none⟩) n q) L) : Byt w (some ⟨g, 0, none⟩) n q L := by
  obtain ⟨A, m, c, hv, -, y⟩ := h.bytm
  injection hv with h1 h2 h3
  subst h1 h2 h3
  exact y
theorem enc_size {r : Rc} (h : chkR r = 0) : (encB r).length ≤ 122 ∧ encB r ≠ [] := by
  have := fld_len (chk_small h).1
  refine ⟨?_, fun e => by simp [encB] at e⟩
  simp [encB]
  omega
theorem chk_sizes {r : Rc} (h : chkR r = 0) : r.sa.size ≤ maxLen ∧ r.sb.size ≤ maxLen := by
  have h1 := (chk_small h).1.la
  have h2 := (chk_small h).1.lb
  unfold maxLen
  omega
theorem shR_of {r : Rc} (h : (decide (r.sa.size ≤ 200) && decide (r.sb.size ≤ 200)) = true) : r.sa.size ≤ maxLen ∧ r.sb.size ≤ maxLen := by
  simp at h
  unfold maxLen
  omega
set_option maxRecDepth 100000 in
set_option maxHeartbeats 16000000 in
theorem walkTaggedBack (r : Rc) (A : Option Addr) (m c : Nat) (zs : List Int) (nn : Int) (w : World) (hr : IsRow .u8 w A m c zs) :
    Calls Try.prog 7 #[.agg r.cells, .slice A m c, .int .i64 nn] w fun e w' => e = .returned (.bool true) ∧ Below w.heap.size w w' := by
  obtain ⟨i0, hi0, hz0, hz1, hz2⟩ := info_parts byteInfo
  have HAL := Lib.hid alive_any
  have HSH := Lib.hid (short_any r)
  have hA := byt_of_row hr
  obtain ⟨l, hl⟩ : ∃ l, zs.take m = l := ⟨_, rfl⟩
  rw [hl] at hA
  have HA := Lib.hid hA
  obtain ⟨L, hL, hL0, hx, hLs⟩ := rec_world w r
  have HX := Lib.hid hx
  have HL0 := Lib.hid hL0
  have HXZ : Hid (w.heap.size < L.heap.size) := Lib.hid (heap_lt HX.out)
  obtain ⟨c0, c1, c2, c3, c4, c5, c6, c7, c8, c9, c10, c11⟩ := HX.out.cells
  clear hx hL0 hLs hr hA hl
  obtain ⟨sh, hs⟩ : ∃ b, (decide (r.sa.size ≤ 200) && decide (r.sb.size ≤ 200)) = b := ⟨_, rfl⟩
  cases sh with
  | true =>
    obtain ⟨ha, hb⟩ := shR_of hs
    rw [hs] at HSH
    by_cases hm : m ≤ 500
    · have dm : decide (500 < (m : Int)) = false := decide_eq_false (by omega)
      obtain ⟨x, hx⟩ : ∃ x, chkR r = x := ⟨_, rfl⟩
      obtain ⟨B, hB⟩ : ∃ B, (if chkR r = 0 then encB r else []) = B := ⟨_, rfl⟩
      have HEN := Lib.hid (enc_gives ha hb hx hB)
      have HBE : Hid (x = 0 → encB r = B ∧ chkR r = 0) := Lib.hid (fun h => by rw [hx, h] at hB; exact ⟨by rw [← hB, if_pos rfl], by rw [hx, h]⟩)
      have HNQ := Lib.hid (neqRec_same r)
      have HDE : Hid (chkR r = 0 → decR (encB r) = (r, 0)) := Lib.hid decR_enc
      have HDM : Hid (decR (encB r ++ [0]) = (rc0, 3)) := Lib.hid decR_more
      have HDC : Hid (∀ {k : Nat}, k < (encB r).length → decR ((encB r).take k) = (rc0, 2)) := Lib.hid decR_cut
      have HSZ : Hid (chkR r = 0 → (encB r).length ≤ 122 ∧ encB r ≠ []) := Lib.hid enc_size
      obtain ⟨EP, hEP⟩ : ∃ EP, encB r = EP := ⟨_, rfl⟩
      rw [hEP] at HBE HDE HDM HDC HSZ
      have HMM := Lib.hid hm
      clear hs ha hb hx hB hEP hm
      obtain ⟨s0, s1, s2, sa, sb, s5, s6, s7, s8, b9, s10, b11⟩ := r
      have hnq := HNQ.out
      have gq := guardRec'
      unfold Rc.cells at HSH HEN hL hnq ⊢
      simp only at hL HSH HEN hnq c0 c1 c2 c3 c4 c5 c6 c7 c8 c9 c10 c11 ⊢
      go_enter Try.func7, Try.ntmps7
      go_upto_if 34 with (first
        | (go_at_call 16; (with_reducible refine (HSH.out _).mono ?_); rintro e w1 ⟨rfl, hb1⟩; have HB1 := Lib.hid hb1; have HX1 := Lib.hid (HX.out.below hb1 HXZ.out); clear hb1 c0 c1 c2 c3 c4 c5 c6 c7 c8 c9 c10 c11; obtain ⟨c0, c1, c2, c3, c4, c5, c6, c7, c8, c9, c10, c11⟩ := HX1.out.cells; simp only at c0 c1 c2 c3 c4 c5 c6 c7 c8 c9 c10 c11)
        | (go_at_call 17; (with_reducible refine (HEN.out _).mono ?_); rintro e w2 ⟨v2, rfl, ho2, hb2⟩; have HO2 := Lib.hid ho2; have HB2 := Lib.hid (HB1.out.trans (hb2.mono HB1.out.size)); have HX2 := Lib.hid (HX1.out.below hb2 (Nat.lt_of_lt_of_le HXZ.out HB1.out.size)); clear ho2 hb2 c0 c1 c2 c3 c4 c5 c6 c7 c8 c9 c10 c11))
      go_cut [7] from 8 to 101 (fun s7 wx => Below L.heap.size L wx)
      case first =>
        by_cases hx0 : x = 0
        · obtain ⟨hBE, hck⟩ := HBE.out hx0
          subst hx0 hBE
          have HDQ := Lib.hid (HDE.out hck)
          obtain ⟨hn122, hne⟩ := HSZ.out hck
          have HNE := Lib.hid hne
          clear hck
          obtain ⟨g2, N, q2, rfl, hN, hg2, hgl2⟩ := own_some HO2.out HNE.out
          have HN := Lib.hid hN
          have hn122 : N ≤ 122 := by omega
          have HN2 := Lib.hid hn122
          have HY2 := Lib.hid (own_byt HO2.out)
          have HG2 := Lib.hid hg2
          clear hN hg2 hgl2 hne hn122
          go_upto_region 6 with (go_at_call 19; have hd := dec_gives HY2.out (by have := HN2.out; omega) HDQ.out; simp only [Rc.cells] at hd; (with_reducible refine hd.mono ?_); clear hd; rintro e w3 ⟨rfl, hb3⟩; have HB3 := Lib.hid ((HB2.out.trans (hb3.mono HB2.out.size)).alloc (Nat.le_trans HB2.out.size hb3.size) (.cells #[.int .i64 s0, .int .i64 s1, .int .i64 s2, .string sa, .string sb, .int .i64 s5, .int .i64 s6, .int .i64 s7, .int .i64 s8, .bool b9, .int .i64 s10, .bool b11] 34)); have HR3 : Hid (RcB (w3.alloc (.cells #[.int .i64 s0, .int .i64 s1, .int .i64 s2, .string sa, .string sb, .int .i64 s5, .int .i64 s6, .int .i64 s7, .int .i64 s8, .bool b9, .int .i64 s10, .bool b11] 34)) w3.heap.size ⟨s0, s1, s2, sa, sb, s5, s6, s7, s8, b9, s10, b11⟩) := Lib.hid (heap_alloc_new w3 _); have HX3 := Lib.hid ((HX2.out.below hb3 (Nat.lt_of_lt_of_le HXZ.out HB2.out.size)).below (below_lit w3 (.cells #[.int .i64 s0, .int .i64 s1, .int .i64 s2, .string sa, .string sb, .int .i64 s5, .int .i64 s6, .int .i64 s7, .int .i64 s8, .bool b9, .int .i64 s10, .bool b11] 34)) (Nat.lt_of_lt_of_le HXZ.out (Nat.le_trans HB2.out.size hb3.size))); have HO3 : Hid (Own (w3.alloc (.cells #[.int .i64 s0, .int .i64 s1, .int .i64 s2, .string sa, .string sb, .int .i64 s5, .int .i64 s6, .int .i64 s7, .int .i64 s8, .bool b9, .int .i64 s10, .bool b11] 34)) w1.heap.size (.slice (some ⟨g2, 0, none⟩) N q2) EP) := Lib.hid ((HO2.out.below hb3).below (below_lit w3 (.cells #[.int .i64 s0, .int .i64 s1, .int .i64 s2, .string sa, .string sb, .int .i64 s5, .int .i64 s6, .int .i64 s7, .int .i64 s8, .bool b9, .int .i64 s10, .bool b11] 34))); clear hb3)
          obtain ⟨W4, hW4⟩ : ∃ W4, w3.alloc (.cells #[.int .i64 s0, .int .i64 s1, .int .i64 s2, .string sa, .string sb, .int .i64 s5, .int .i64 s6, .int .i64 s7, .int .i64 s8, .bool b9, .int .i64 s10, .bool b11] 34) = W4 := ⟨_, rfl⟩
          have HZ4 : Hid (w3.heap.size < W4.heap.size) := Lib.hid (by rw [← hW4, World.size_alloc]; omega)
          rw [hW4] at HB3 HR3 HX3 HO3 ⊢
          clear hW4
          obtain ⟨g3, hg3⟩ : ∃ g3, w3.heap.size = g3 := ⟨_, rfl⟩
          rw [hg3] at HR3 HZ4 ⊢
          clear hg3
          have HH4 := Lib.hid ((own_byt HO3.out).below (below_lit W4 (.cells #[] 5))).has
          have HW4 := Lib.hid (below_lit W4 (.cells #[] 5))
          go_upto_region 7 with (first
            | (at_builtin; refine wpList_append_has rfl (.tmp 41) (.tmp 42) 25 rfl W4.heap.size 5 i0 _ 1 Try.underlying25 hi0 hz0 hz1 hz2 rfl (.slice (some ⟨W4.heap.size, 0, none⟩) 0 0) 0 [] rfl (own_lit W4 5) (some ⟨g2, 0, none⟩) N q2 (C8 EP) rfl HH4.out (by have := HN2.out; unfold maxLen; omega) (by have := HN2.out; omega) HW4.out.size ?_; intro v5 w5 q5 q6; have HO5 : Hid (Own w5 W4.heap.size v5 EP) := Lib.hid (own_of_nil q5 HN.out.symm HO3.out.2); have hb5 : Below W4.heap.size W4 w5 := HW4.out.grown q6 HW4.out.size (fun g hg => (by obtain rfl : W4.heap.size = g := (by simpa [Value.ownBlock] using hg); exact Nat.le_refl _)); have HB5 := Lib.hid hb5; clear q5 q6; obtain ⟨g5, N5, c5, rfl, hN5, hg5, hgl5⟩ := own_some HO5.out HNE.out; obtain rfl : N = N5 := (by rw [hN5]; exact HN.out); have HG5 := Lib.hid hg5; clear hN5 hg5 hgl5 hb5; have HO6 := Lib.hid (HO5.out.below (below_lit w5 (.cells #[.int .u8 0] 5))); have HH6 : Hid (Has (w5.alloc (.cells #[.int .u8 0] 5)) (some ⟨w5.heap.size, 0, none⟩) 1 1 [.int .u8 0]) := Lib.hid (byt_lit w5 [0] (by simp) (by unfold maxLen; decide)).has)
            | (at_builtin; refine wpList_append_has rfl (.tmp 43) (.tmp 44) 25 rfl W4.heap.size 5 i0 _ 1 Try.underlying25 hi0 hz0 hz1 hz2 rfl (.slice (some ⟨g5, 0, none⟩) N c5) N (C8 EP) rfl (by have h := HO6.out.1; rw [← HN.out] at h; exact h) (some ⟨w5.heap.size, 0, none⟩) 1 1 [.int .u8 0] rfl HH6.out (by have := HN2.out; unfold maxLen; omega) (by have := HN2.out; omega) (Nat.le_trans HB5.out.size (by rw [World.size_alloc]; omega)) ?_; intro v6 w6 q5 q6; have HO7 : Hid (Own w6 W4.heap.size v6 (EP ++ [0])) := Lib.hid (glueF (r := [0]) (by rw [← HN.out]; exact q5) rfl HO3.out.2 (by simp)); have hb6 : Below W4.heap.size W4 w6 := (HB5.out.alloc HB5.out.size _).grown q6 (Nat.le_trans HB5.out.size (by rw [World.size_alloc]; omega)) (fun g hg => (by obtain rfl : g5 = g := (by simpa [Value.ownBlock] using hg); exact HG5.out)); have HB6 := Lib.hid hb6; clear q5 q6 hb6; obtain ⟨g6, N6, c6, rfl, hN6, hg6, hgl6⟩ := own_some HO7.out (by simp); have HY7 := Lib.hid (own_byt HO7.out); have HN6 := Lib.hid hN6; clear hN6 hg6 hgl6)
            | (go_at_call 19; have hd := dec_gives HY7.out (by have h1 := HN6.out; rw [List.length_append] at h1; have h2 := HN.out; have h3 := HN2.out; simp at h1; omega) HDM.out; simp only [Rc.cells, rc0] at hd; (with_reducible refine hd.mono ?_); clear hd; rintro e w7 ⟨rfl, hb7⟩; have HB7 : Hid (Below W4.heap.size W4 (w7.alloc (.cells #[.int .i64 0, .int .i64 0, .int .i64 0, .string ⟨#[]⟩, .string ⟨#[]⟩, .int .i64 0, .int .i64 0, .int .i64 0, .int .i64 0, .bool false, .int .i64 0, .bool false] 34))) := Lib.hid ((HB6.out.trans (hb7.mono HB6.out.size)).alloc (Nat.le_trans HB6.out.size hb7.size) _); clear hb7))
          obtain ⟨W8, hW8⟩ : ∃ W8, w7.alloc (.cells #[.int .i64 0, .int .i64 0, .int .i64 0, .string ⟨#[]⟩, .string ⟨#[]⟩, .int .i64 0, .int .i64 0, .int .i64 0, .int .i64 0, .bool false, .int .i64 0, .bool false] 34) = W8 := ⟨_, rfl⟩
          rw [hW8] at HB7 ⊢
          clear hW8
          have HR8 := Lib.hid (HR3.out.below HB7.out HZ4.out)
          have HX8 := Lib.hid (HX3.out.below HB7.out (heap_lt HX3.out))
          have HB8 := Lib.hid (HB3.out.trans (HB7.out.mono HB3.out.size))
          have HO8 := Lib.hid (HO3.out.below HB7.out)
          have HY8 := Lib.hid (own_byt HO8.out)
          obtain ⟨k0, k1, k2, k3, k4, k5, k6, k7, k8, k9, k10, k11⟩ := HR8.out.cells
          simp only at k0 k1 k2 k3 k4 k5 k6 k7 k8 k9 k10 k11
          obtain ⟨c0, c1, c2, c3, c4, c5, c6, c7, c8, c9, c10, c11⟩ := HX8.out.cells
          simp only at c0 c1 c2 c3 c4 c5 c6 c7 c8 c9 c10 c11
          go_upto_region 9 with fail
          clear k0 k1 k2 k3 k4 k5 k6 k7 k8 k9 k10 k11 c0 c1 c2 c3 c4 c5 c6 c7 c8 c9 c10 c11
          by_cases i0' : nn < 0
          · have di : decide (0 ≤ nn) = false := decide_eq_false (by omega)
            clear i0'
            go_wp2_with fail
            go_meet
            case rel => exact HB8.out
          · obtain ⟨k, rfl⟩ := Int.eq_ofNat_of_zero_le (show 0 ≤ nn by omega)
            have di : decide ((0 : Int) ≤ (k : Int)) = true := decide_eq_true (by omega)
            by_cases i1 : k < N
            · have dj : decide ((k : Int) < (N : Int)) = true := decide_eq_true (by omega)
              have djn : decide (k < N) = true := decide_eq_true i1
              have hk0 : (0 : Int) ≤ (k : Int) := by omega
              have hkq : (k : Int) ≤ (q2 : Int) := by have := HY8.out.cap; omega
              have HYK := Lib.hid (byt_take HY8.out k (by omega))
              have HDK := Lib.hid (HDC.out (k := k) (by rw [← HN.out]; exact i1))
              have HI1 := Lib.hid i1
              clear i0'
              go_wp2_with (go_at_call 19; have hd := dec_gives HYK.out (by have := HN2.out; have := HI1.out; omega) HDK.out; simp only [Rc.cells, rc0] at hd; (with_reducible refine hd.mono ?_); clear hd; rintro e w9 ⟨rfl, hb9⟩; have HB9 := Lib.hid (HB8.out.trans (hb9.mono HB8.out.size)); clear hb9)
              go_meet
              case rel => exact HB9.out.alloc HB9.out.size _
            · have dj : decide ((k : Int) < (N : Int)) = false := decide_eq_false (by omega)
              have djn : decide (k < N) = false := decide_eq_false i1
              clear i0' i1
              go_wp2_with fail
              go_meet
              case rel => exact HB8.out
        · have hxe : (x == 0) = false := by simp [hx0]
          clear hx0
          go_wp2_with fail
          go_meet
          case rel => exact HB2.out
      case rest =>
        have HBC := Lib.hid hcut
        have HBW := Lib.hid (HL0.out.trans (hcut.mono HL0.out.size))
        clear hcut
        obtain ⟨⟨q, f⟩, hqf⟩ : ∃ p, decR l = p := ⟨_, rfl⟩
        have HD := Lib.hid (fun W (hb : Below w.heap.size w W) => dec_gives (HA.out.below hb) (by have := HMM.out; omega) hqf)
        by_cases hf : f = 0
        · subst hf
          obtain ⟨hcq, hbq⟩ := encB_dec HA.out.ran (by rw [hqf])
          rw [hqf] at hcq hbq
          obtain ⟨z1, z2⟩ := chk_sizes hcq
          have HE := Lib.hid (enc_gives z1 z2 hcq (by rw [if_pos hcq, hbq]))
          obtain ⟨n0, n1, n2, na, nb, n5, n6, n7, n8, d9, n10, d11⟩ := q
          simp only [Rc.cells] at HD HE
          clear hqf hcq hbq z1 z2
          go_wp2_with (first
            | (go_at_call 19; (with_reducible refine (HD.out _ HBW.out).mono ?_); rintro e w3 ⟨rfl, hb3⟩; have HB3 := Lib.hid ((HBW.out.trans (hb3.mono HBW.out.size)).alloc (Nat.le_trans HBW.out.size hb3.size) (.cells #[.int .i64 n0, .int .i64 n1, .int .i64 n2, .string na, .string nb, .int .i64 n5, .int .i64 n6, .int .i64 n7, .int .i64 n8, .bool d9, .int .i64 n10, .bool d11] 34)); have HR3 : Hid (RcB (w3.alloc (.cells #[.int .i64 n0, .int .i64 n1, .int .i64 n2, .string na, .string nb, .int .i64 n5, .int .i64 n6, .int .i64 n7, .int .i64 n8, .bool d9, .int .i64 n10, .bool d11] 34)) w3.heap.size ⟨n0, n1, n2, na, nb, n5, n6, n7, n8, d9, n10, d11⟩) := Lib.hid (heap_alloc_new w3 _); obtain ⟨k0, k1, k2, k3, k4, k5, k6, k7, k8, k9, k10, k11⟩ := HR3.out.cells; simp only at k0 k1 k2 k3 k4 k5 k6 k7 k8 k9 k10 k11; clear hb3)
            | (go_at_call 17; (with_reducible refine (HE.out _).mono ?_); rintro e w4 ⟨v4, rfl, ho4, hb4⟩; obtain ⟨A4, m4, q4, rfl, -, y4⟩ := ho4.bytm; have HB4 := Lib.hid (HB3.out.trans (hb4.mono HB3.out.size)); have cv1 := byt_conv y4; have cv2 := byt_conv (HA.out.below HB4.out); clear ho4 hb4 y4 k0 k1 k2 k3 k4 k5 k6 k7 k8 k9 k10 k11)
            | (go_at_call 10; (with_reducible refine (HAL.out _).mono ?_); rintro e w5 ⟨rfl, hb5⟩; have HB5 := Lib.hid (HB4.out.trans (hb5.mono HB4.out.size)); clear hb5))
          go_ret
          exact ⟨rfl, HB5.out⟩
        · have hfn : (f != 0) = true := by simp [hf]
          clear hf hqf
          obtain ⟨n0, n1, n2, na, nb, n5, n6, n7, n8, d9, n10, d11⟩ := q
          simp only [Rc.cells] at HD
          go_wp2_with (first
            | (go_at_call 19; (with_reducible refine (HD.out _ HBW.out).mono ?_); rintro e w3 ⟨rfl, hb3⟩; have HB3 := Lib.hid ((HBW.out.trans (hb3.mono HBW.out.size)).alloc (Nat.le_trans HBW.out.size hb3.size) (.cells #[.int .i64 n0, .int .i64 n1, .int .i64 n2, .string na, .string nb, .int .i64 n5, .int .i64 n6, .int .i64 n7, .int .i64 n8, .bool d9, .int .i64 n10, .bool d11] 34)); clear hb3)
            | (go_at_call 10; (with_reducible refine (HAL.out _).mono ?_); rintro e w5 ⟨rfl, hb5⟩; have HB5 := Lib.hid (HB3.out.trans (hb5.mono HB3.out.size)); clear hb5))
          go_ret
          exact ⟨rfl, HB5.out⟩
    · have dm : decide (500 < (m : Int)) = true := decide_eq_true (by omega)
      clear hs ha hb hm
      obtain ⟨s0, s1, s2, sa, sb, s5, s6, s7, s8, b9, s10, b11⟩ := r
      unfold Rc.cells at HSH hL ⊢
      simp only at hL HSH c0 c1 c2 c3 c4 c5 c6 c7 c8 c9 c10 c11 ⊢
      go_enter Try.func7, Try.ntmps7
      go_wp2_with (first
        | (go_at_call 16; (with_reducible refine (HSH.out _).mono ?_); rintro e w1 ⟨rfl, hb1⟩; have HB1 := Lib.hid hb1; clear hb1)
        | (go_at_call 10; (with_reducible refine (HAL.out _).mono ?_); rintro e w4 ⟨rfl, hb4⟩; have HB4 := Lib.hid (HB1.out.trans (hb4.mono HB1.out.size)); clear hb4))
      go_ret
      exact ⟨rfl, HL0.out.trans (HB4.out.mono HL0.out.size)⟩
  | false =>
    rw [hs] at HSH
    clear hs
    obtain ⟨s0, s1, s2, sa, sb, s5, s6, s7, s8, b9, s10, b11⟩ := r
    unfold Rc.cells at HSH hL ⊢
    simp only at hL HSH c0 c1 c2 c3 c4 c5 c6 c7 c8 c9 c10 c11 ⊢
    go_enter Try.func7, Try.ntmps7
    go_wp2_with (first
      | (go_at_call 16; (with_reducible refine (HSH.out _).mono ?_); rintro e w1 ⟨rfl, hb1⟩; have HB1 := Lib.hid hb1; clear hb1)
      | (go_at_call 10; (with_reducible refine (HAL.out _).mono ?_); rintro e w4 ⟨rfl, hb4⟩; have HB4 := Lib.hid (HB1.out.trans (hb4.mono HB1.out.size)); clear hb4))
    go_ret
    exact ⟨rfl, HL0.out.trans (HB4.out.mono HL0.out.size)⟩
end Go.Proofs.Ytinnmnhaeejfdaa
