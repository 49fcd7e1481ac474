/- Walk of the law on operands. -/
import Derived.Test.YtolgfkkjbefecaaCkOM
namespace Go.Proofs.Ytolgfkkjbefecaa
open Go.RowKit Ck Go.Lib Go.Maps

namespace Ck
set_option maxRecDepth 100000 in
set_option maxHeartbeats 8000000 in
theorem sortAt_own (op num : Int) (tx : ByteArray) (ow : Int) (A : Option Addr) (n c : Nat) (w : World) (how : ownE op num tx n = ow) (h0 : ow ≠ 0) (hc : n ≤ c) (hm : c ≤ maxLen) (ht : tx.size ≤ maxLen) :
    Calls Try.prog 22 #[.agg #[.int .i64 op, .int .i64 num, .string tx, .slice A n c], .int .i64 1] w fun e w' => e = .returned (.tuple #[.int .i64 0, .int .i64 ow]) ∧ Below w.heap.size w w' := by
  have HC := Lib.hid (fun W => checkFields_is (lv := 1) (op := op) (num := num) (tx := tx) (n := n) (v := ow) (by unfold cfE; rw [if_neg (by decide), how]) A c W hc hm ht)
  have HB := Lib.hid (below_one w (.cells #[.int .i64 op, .int .i64 num, .string tx, .slice A n c] 24))
  obtain ⟨c0, c1, c2, c3⟩ := four (Blk.new w 24 #[.int .i64 op, .int .i64 num, .string tx, .slice A n c])
  have d0 : (ow != 0) = true := by rw [bne_iff_ne]; exact h0
  clear h0 how
  go_enter Try.func22, Try.ntmps22
  go_wp2_with (go_at_call 45; (with_reducible refine (HC.out _).mono ?_); rintro e w1 ⟨rfl, hb1⟩; have HB1 := Lib.hid (HB.out.trans (hb1.mono HB.out.size)); clear hb1 c0 c1 c2 c3)
  go_ret2
  exact ⟨rfl, HB1.out⟩
theorem expr_own (op num : Int) (tx : ByteArray) (ow : Int) (A : Option Addr) (n c : Nat) (w : World) (how : ownE op num tx n = ow) (h0 : ow ≠ 0) (hc : n ≤ c) (hm : c ≤ maxLen) (ht : tx.size ≤ maxLen) :
    Calls Try.prog 12 #[.agg #[.int .i64 op, .int .i64 num, .string tx, .slice A n c]] w fun e w' => e = .returned (.tuple #[.int .i64 0, .int .i64 ow]) ∧ Below w.heap.size w w' := by
  have HB := Lib.hid (below_one w (.cells #[.int .i64 op, .int .i64 num, .string tx, .slice A n c] 24))
  obtain ⟨c0, c1, c2, c3⟩ := four (Blk.new w 24 #[.int .i64 op, .int .i64 num, .string tx, .slice A n c])
  have HC := Lib.hid (fun W => sortAt_own op num tx ow A n c W how h0 hc hm ht)
  clear how h0
  go_enter Try.func12, Try.ntmps12
  go_wp2_with (go_at_call 22; (with_reducible refine (HC.out _).mono ?_); rintro e w1 ⟨rfl, hb1⟩; have HB1 := Lib.hid (HB.out.trans (hb1.mono HB.out.size)); clear hb1 c0 c1 c2 c3)
  go_ret2
  exact ⟨rfl, HB1.out⟩
theorem XA.one {w : World} {d q : Nat} {op num : Int} {tx : ByteArray} {args : List Ex} {A : Option Addr} {n c : Nat} (h : XA w d A args) (hn : args.length = n) (hc : n ≤ c) (hm : c ≤ maxLen) (ht : tx.size ≤ maxLen) (hb : Blk w q 24 #[.int .i64 op, .int .i64 num, .string tx, .slice A n c]) : XA w (d + 1) (some ⟨q, 0, none⟩) [.mk op num tx args] := fun i hi => by
  subst hn
  match i, hi with
  | 0, _ =>
    obtain ⟨e0, e1, e2, e3⟩ := four hb
    exact ⟨q, 0, op, num, tx, args, A, c, rfl, hb.lt, rfl, e0, e1, e2, e3, hc, hm, ht, h⟩
theorem own_litE (w : World) : (w.alloc (.cells #[] 24)).ownsRow w.heap.size 24 4 (.slice (some ⟨w.heap.size, 0, none⟩) 0 0) 0 [] :=
  World.ownsRow_lit w #[] 0 (Nat.le_refl _) (by decide) rfl
end Ck
set_option maxRecDepth 100000 in
set_option maxHeartbeats 32000000 in
theorem walkCheckerOperands (op num : Int) (tx : ByteArray) (args : List Ex) (A : Option Addr) (d n c : Nat) (w : World) (hA : XA w d A args) (hn : args.length = n) (hc : n ≤ c) (hm : c ≤ maxLen) (ht : tx.size ≤ maxLen) :
    Calls Try.prog 4 #[.agg #[.int .i64 op, .int .i64 num, .string tx, .slice A n c]] w fun e w' => e = .returned (.bool true) ∧ Below w.heap.size w w' := by
  obtain ⟨W1, hW1⟩ : ∃ W, w.alloc (.cells #[.int .i64 op, .int .i64 num, .string tx, .slice A n c] 24) = W := ⟨_, rfl⟩
  obtain ⟨g, hg⟩ : ∃ g, w.heap.size = g := ⟨_, rfl⟩
  have hbk : Blk W1 g 24 #[.int .i64 op, .int .i64 num, .string tx, .slice A n c] := hW1 ▸ hg ▸ Blk.new w _ _
  have HB := Lib.hid (show Below w.heap.size w W1 from hW1 ▸ below_one w _)
  have HBK := Lib.hid hbk
  have HA1 := Lib.hid (hA.below HB.out)
  obtain ⟨v, hv⟩ : ∃ v, sml (.mk op num tx args) = v := ⟨_, rfl⟩
  obtain ⟨sv, hsv⟩ : ∃ x, sortX 16 (.mk op num tx args) = x := ⟨_, rfl⟩
  obtain ⟨s, er⟩ := sv
  have HSM := Lib.hid (fun (W : World) (h : XA W d A args) => small_is hv A d n c W h hn hc hm ht)
  have HE := Lib.hid (fun (W : World) (h : XA W d A args) => expr_is hsv A d n c W h hn hc hm ht)
  have HN := Lib.hid hn
  obtain ⟨c0, c1, c2, c3⟩ := four hbk
  clear hA hn hbk hv
  cases v
  · clear hsv
    go_enter Try.func4, Try.ntmps4
    go_wp2_with (first
      | (go_at_call 10; (with_reducible refine (HSM.out _ HA1.out).mono ?_); rintro e w1 ⟨rfl, hb1⟩; have HB1 := Lib.hid hb1; clear hb1 c0 c1 c2 c3)
      | (go_at_call 11; (with_reducible refine (awake_any _).mono ?_); rintro e w3 ⟨rfl, hb3⟩; have HB3 := Lib.hid (HB1.out.trans (hb3.mono HB1.out.size)); clear hb3))
    go_ret
    exact ⟨rfl, HB.out.trans (HB3.out.mono HB.out.size)⟩
  by_cases her : er = 0
  · subst her
    have HOP : Hid (∀ i e, args[i]? = some e → ∃ t, sortX 16 e = (t, 0) ∧ (11 ≤ op → t = 1) ∧ (op ≤ 6 → t = 3)) := Lib.hid (fun i e he => opnd (by rw [hsv]) he)
    have how : ownE op num tx n = 0 := by
      rw [← HN.out]
      by_cases h0 : ownE op num tx args.length = 0
      · exact h0
      · rw [show (16 : Nat) = 15 + 1 from rfl, sortX_own h0] at hsv
        exact absurd (Prod.mk.inj hsv).2 h0
    have hn2 : n ≤ 2 := by
      have h := own_len (n := n) how
      unfold arity at h
      (repeat' split at h) <;> omega
    have HMO := Lib.hid (fun (z cz : Nat) (W : World) (h1 : n + 1 ≤ cz) (h2 : cz ≤ maxLen) => expr_own op num tx 7 (some ⟨z, 0, none⟩) (n + 1) cz W (more_own how) (by decide) h1 h2 ht)
    have HSV := Lib.hid hsv
    have HT := Lib.hid (show n ≤ c ∧ c ≤ maxLen ∧ tx.size ≤ maxLen from ⟨hc, hm, ht⟩)
    have hm' := hm
    unfold maxLen at hm'
    obtain ⟨i0, hi0, hz0, hz1, hz2⟩ := info_parts exInfo
    clear hsv how
    go_enter Try.func4, Try.ntmps4
    go_upto_region 7 with (first
      | (go_at_call 10; (with_reducible refine (HSM.out _ HA1.out).mono ?_); rintro e w1 ⟨rfl, hb1⟩; have HB1 := Lib.hid hb1; clear hb1 c0 c1 c2 c3; obtain ⟨c0, c1, c2, c3⟩ := four (HBK.out.below HB1.out HBK.out.lt))
      | (go_at_call 12; (with_reducible refine (HE.out _ (HA1.out.below HB1.out)).mono ?_); rintro e w2 ⟨rfl, hb2⟩; have HB2 := Lib.hid (HB1.out.trans (hb2.mono HB1.out.size)); clear hb2 c0 c1 c2 c3))
    go_wp2_with fail
    go_loopw [5] (fun iv wr => ∃ i : Nat, iv = .int .i64 i ∧ i ≤ n ∧ Below W1.heap.size W1 wr) (fun iv _ => n - (RowKit.intOf iv).toNat)
    case atStart => exact ⟨0, rfl, by omega, HB2.out⟩
    case round =>
      obtain ⟨i, rfl, hi, hb⟩ := hrel
      have hs := hb.size
      obtain ⟨c0, c1, c2, c3⟩ := four (HBK.out.below hb HBK.out.lt)
      by_cases hlt : i < n
      · have hlt' : (i : Int) < (n : Int) := by omega
        have hil : i < args.length := by rw [HN.out]; exact hlt
        obtain ⟨b, off, o, m, t, us, A', c', rfl, hbl, hei, g0, g1, g2, g3, u1, u2, u3, hX⟩ := HA1.out.at hil
        have e0 := (hb.cell (p := ⟨b, off + i * 4, none⟩) hbl).trans g0
        have e1 := (hb.cell (p := ⟨b, off + i * 4 + 1, none⟩) hbl).trans g1
        have e2 := (hb.cell (p := ⟨b, off + i * 4 + 2, none⟩) hbl).trans g2
        have e3 := (hb.cell (p := ⟨b, off + i * 4 + 3, none⟩) hbl).trans g3
        obtain ⟨nu, hnu⟩ : ∃ x, us.length = x := ⟨_, rfl⟩
        rw [hnu] at e3 u1
        obtain ⟨tv, htv, hp1, hp2⟩ := HOP.out i _ hei
        have HCL := Lib.hid (expr_is htv A' (d - 1) nu c' wr (hX.below hb) hnu u1 u2 u3)
        clear g0 g1 g2 g3 u1 u2 u3 hX hnu hei hil hbl htv
        have hcs : (decide (11 ≤ op) = false ∨ (decide (11 ≤ op) = true ∧ (tv != 1) = false)) ∧ (decide (op ≤ 6) = false ∨ (decide (op ≤ 6) = true ∧ (tv != 3) = false)) := by
          refine ⟨?_, ?_⟩
          · by_cases h : 11 ≤ op
            · right; exact ⟨decide_eq_true h, by rw [hp1 h]; rfl⟩
            · left; exact decide_eq_false h
          · by_cases h : op ≤ 6
            · right; exact ⟨decide_eq_true h, by rw [hp2 h]; rfl⟩
            · left; exact decide_eq_false h
        clear hp1 hp2
        obtain ⟨hc1, hc2⟩ := hcs
        rcases hc1 with q1 | ⟨q1, q2⟩ <;> rcases hc2 with q3 | ⟨q3, q4⟩
        all_goals
          go_wp2_with (go_at_call 12; (with_reducible refine HCL.out.mono ?_); rintro e w3 ⟨rfl, hb3⟩; have HB3 := Lib.hid (hb.trans (hb3.mono hs)); clear hb3 c0 c1 c2 c3; obtain ⟨c0, c1, c2, c3⟩ := four (HBK.out.below HB3.out HBK.out.lt))
          go_roundw
          case rel => exact ⟨i + 1, by go_num, by omega, HB3.out⟩
          case measure => simp [RowKit.intOf]; omega
      · obtain rfl : i = n := by omega
        have hd : decide ((i : Int) < (i : Int)) = false := decide_eq_false (by omega)
        go_upto_region 13 with fail
        have hb2 : Below W1.heap.size W1 (wr.alloc (.cells #[.int .i64 op, .int .i64 num, .string tx, .slice A i c] 24)) := hb.alloc hs _
        have hx2 := Blk.new wr 24 #[.int .i64 op, .int .i64 num, .string tx, .slice A i c]
        obtain ⟨x, hx⟩ : ∃ x, wr.heap.size = x := ⟨_, rfl⟩
        have hxl : W1.heap.size ≤ x := by omega
        have hx3 : (wr.alloc (.cells #[.int .i64 op, .int .i64 num, .string tx, .slice A i c] 24)).heap.size = x + 1 := by simp [hx]
        rw [hx] at hx2 ⊢
        generalize wr.alloc (.cells #[.int .i64 op, .int .i64 num, .string tx, .slice A i c] 24) = L2 at hb2 hx2 hx3 ⊢
        have HX2 := Lib.hid hx2; have HB22 := Lib.hid hb2; have HXL := Lib.hid hxl; have HX3 := Lib.hid hx3
        have HA3 := Lib.hid (HA1.out.below (hb2.alloc hb2.size (.cells #[] 24)))
        obtain ⟨news, s1, s2, s3⟩ := HA3.out.src
        have HSR := Lib.hid (show news.length = i * 4 ∧ (∀ ad, A = some ad → ∀ j u, news[j]? = some u → (L2.alloc (.cells #[] 24)).cell? (ad.add j) = some u) ∧ (∀ u ∈ news, u.oneCell' = true) ∧ (A = none → i = 0) from ⟨by rw [s1, HN.out], s2, s3, fun h => by rw [← HN.out]; exact HA3.out.isNil h⟩)
        have HOL := Lib.hid (own_litE L2)
        obtain ⟨nt, nh, hne, hcase⟩ : ∃ nt nh, sortX 16 (.mk 4 0 ⟨#[]⟩ [.mk op num tx args]) = (nt, nh) ∧ ((nh = 0 ∧ nt = 3 ∧ s = 3) ∨ (nh = 7 ∧ nt = 0 ∧ (s != 3) = true) ∨ (nh = 24 ∧ nt = 0)) := by
          rcases not_out HSV.out with h | h
          · by_cases h3 : s = 3
            · exact ⟨3, 0, by rw [h, if_pos h3], .inl ⟨rfl, rfl, h3⟩⟩
            · exact ⟨0, 7, by rw [h, if_neg h3], .inr (.inl ⟨rfl, rfl, by rw [bne_iff_ne]; exact h3⟩)⟩
          · exact ⟨0, 24, h, .inr (.inr ⟨rfl, rfl⟩)⟩
        have HNE := Lib.hid hne
        obtain ⟨c0, c1, c2, c3⟩ := four (HBK.out.below (hb2.alloc hb2.size (.cells #[] 24)) HBK.out.lt)
        clear hx2 hb2 hxl hx3 s1 s2 s3 hne hx
        rcases hcase with ⟨rfl, rfl, rfl⟩ | ⟨rfl, rfl, hs3⟩ | ⟨rfl, rfl⟩
        all_goals
          go_wp2_with (first
            | (at_builtin; refine Ap.wpList_append_any rfl (.tmp 66) (.tmp 68) 22 rfl L2.heap.size 24 i0 _ 4 56 Try.underlying22 hi0 hz0 hz1 hz2 rfl (by decide) _ 0 [] rfl HOL.out A i c news rfl HSR.out.1 HSR.out.2.2.2 HSR.out.2.1 HSR.out.2.2.1 (by unfold maxLen; omega) (by omega) (by simp) ?_; intro v4 w4 g1 g2; rw [Nat.zero_add, List.nil_append] at g1; have HO4 := Lib.hid g1; have HB4 := Lib.hid (Zn.below_grown (HB22.out.alloc HB22.out.size _) g2 (fun k hk => by have e2 : L2.heap.size = k := Option.some.inj hk; have := HB22.out.size; omega) (by have := HB22.out.size; simp; omega)); have HX4 := Lib.hid ((HX2.out.alloc (.cells #[] 24)).grown g2 (by intro e; have e2 : x = L2.heap.size := Option.some.inj e; have := HX3.out; omega)); have HX4l := Lib.hid (show L2.heap.size ≤ w4.heap.size by have := g2.size; rw [World.size_alloc] at this; omega); clear g1 g2 c0 c1 c2 c3; obtain ⟨c0, c1, c2, c3⟩ := four (HBK.out.below HB4.out HBK.out.lt))
            | (at_builtin; refine wpList_append_own_at _ rfl (.tmp 69) (.tmp 71) 22 rfl L2.heap.size 24 i0 _ 4 56 Try.underlying22 hi0 hz0 hz1 hz2 rfl (by decide) _ i news rfl (HO4.out.alloc _) ⟨w4.heap.size, 0, none⟩ 1 1 [.int .i64 1, .int .i64 0, .string ⟨#[]⟩, .slice none 0 0] rfl rfl src4 (by simp [Value.oneCell']) (by unfold maxLen; omega) (by omega) (by have := HX4l.out; simp; omega) ?_; intro v5 w5 g1 g2 _ _; obtain ⟨z, cz, rfl, p1, p2, _, _⟩ := own_formP g1 (by omega); have HP := Lib.hid (show i + 1 ≤ cz ∧ cz ≤ maxLen from ⟨p1, p2⟩); have hb5 := Zn.below_grown (HB4.out.alloc HB4.out.size (.cells #[.int .i64 1, .int .i64 0, .string ⟨#[]⟩, .slice none 0 0] 24)) g2 (fun k hk => by have := (World.ownsRow.lt HO4.out k hk).1; have := HB22.out.size; omega) (by have := HB4.out.size; simp; omega); have hx5 := (HX4.out.alloc (.cells #[.int .i64 1, .int .i64 0, .string ⟨#[]⟩, .slice none 0 0] 24)).grown g2 (by intro e; have := (World.ownsRow.lt HO4.out x e.symm).1; have := HX3.out; omega); have q3 := hx5.cell 3; have r3 := hx5.frozen 3; have hx6 := hx5.set_ 3 (.slice (some ⟨z, 0, none⟩) (i + 1) cz); have q0 := hx6.cell 0; have q1 := hx6.cell 1; have q2 := hx6.cell 2; have q4 := hx6.cell 3; have HB6 := Lib.hid (hb5.setCell (p := ⟨x, 3, none⟩) HXL.out (.slice (some ⟨z, 0, none⟩) (i + 1) cz)); clear g1 g2 p1 p2 hb5 hx5 hx6 c0 c1 c2 c3; obtain ⟨c0, c1, c2, c3⟩ := four (HBK.out.below HB6.out HBK.out.lt))
            | (go_at_call 12; (with_reducible refine (HMO.out _ _ _ HP.out.1 HP.out.2).mono ?_); rintro e w7 ⟨rfl, hb7⟩; have HB7 := Lib.hid (HB6.out.trans (hb7.mono HB6.out.size)); have HE7 := Lib.hid (expr_is HNE.out (some ⟨w7.heap.size, 0, none⟩) (d + 1) 1 1 (w7.alloc (.cells #[.int .i64 op, .int .i64 num, .string tx, .slice A i c] 24)) (XA.one (HA1.out.below (HB7.out.alloc HB7.out.size _)) HN.out HT.out.1 HT.out.2.1 HT.out.2.2 (Blk.new w7 _ _)) rfl (Nat.le_refl _) (by decide) (by decide)); have HB8 := Lib.hid (HB7.out.alloc HB7.out.size (.cells #[.int .i64 op, .int .i64 num, .string tx, .slice A i c] 24)); clear hb7 q0 q1 q2 q3 q4 r3 c0 c1 c2 c3; obtain ⟨c0, c1, c2, c3⟩ := four (HBK.out.below HB7.out HBK.out.lt))
            | (go_at_call 12; (with_reducible refine HE7.out.mono ?_); rintro e w9 ⟨rfl, hb9⟩; have HB9 := Lib.hid (HB8.out.trans (hb9.mono HB8.out.size)); clear hb9 c0 c1 c2 c3)
            | (go_at_call 11; (with_reducible refine (awake_any _).mono ?_); rintro e w10 ⟨rfl, hb10⟩; have HB10 := Lib.hid (HB9.out.trans (hb10.mono HB9.out.size)); clear hb10))
          go_ret
          exact ⟨rfl, HB.out.trans (HB10.out.mono HB.out.size)⟩
  · have hs0 : s = 0 := by have := sortX_none (k := 16) (e := .mk op num tx args) (by rw [hsv]; exact her); rw [hsv] at this; exact this
    subst hs0
    have d0 : (er != 0) = true := by rw [bne_iff_ne]; exact her
    clear her hsv
    go_enter Try.func4, Try.ntmps4
    go_wp2_with (first
      | (go_at_call 10; (with_reducible refine (HSM.out _ HA1.out).mono ?_); rintro e w1 ⟨rfl, hb1⟩; have HB1 := Lib.hid hb1; clear hb1 c0 c1 c2 c3; obtain ⟨c0, c1, c2, c3⟩ := four (HBK.out.below HB1.out HBK.out.lt))
      | (go_at_call 12; (with_reducible refine (HE.out _ (HA1.out.below HB1.out)).mono ?_); rintro e w2 ⟨rfl, hb2⟩; have HB2 := Lib.hid (HB1.out.trans (hb2.mono HB1.out.size)); clear hb2 c0 c1 c2 c3)
      | (go_at_call 11; (with_reducible refine (awake_any _).mono ?_); rintro e w4 ⟨rfl, hb4⟩; have HB4 := Lib.hid (HB2.out.trans (hb4.mono HB2.out.size)); clear hb4))
    go_ret
    exact ⟨rfl, HB.out.trans (HB4.out.mono HB.out.size)⟩
end Go.Proofs.Ytolgfkkjbefecaa
