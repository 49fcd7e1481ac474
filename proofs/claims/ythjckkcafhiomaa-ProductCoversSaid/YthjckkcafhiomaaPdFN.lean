/- Walk: lists.Filter, with the closure of product.Names. -/
import Derived.Test.YthjckkcafhiomaaPdC
namespace Go.Proofs.Ythjckkcafhiomaa.Pd
open Go.RowKit

set_option maxRecDepth 100000 in
set_option maxHeartbeats 8000000 in
theorem filterN (A : Option Addr) (n c : Nat) (l : List Pr) (t : Int) (g2 : Nat) (w : World) (h2 : Blk w g2 3 #[.int .i64 t]) (hA : PrR w A l) (hn : l.length = n) (h6 : n ≤ 1000000) :
    Calls Try.prog 26 #[.slice A n c, .func (.func 29) #[] #[.pointer (some ⟨g2, 0, none⟩)]] w (RowOut (l.filter (qN t)) w) := by
  obtain ⟨i0, hi0, hz0, hz1, hz2⟩ := info_parts prInfo
  have HA := Lib.hid hA; have HN := Lib.hid hn
  have HC := Lib.hid (fun (p : Pr) (W : World) (hb : Below w.heap.size w W) => names1_any p t g2 W (h2.below hb h2.lt))
  have HE := Lib.hid (kp_all (qN t) l)
  have HO0 : Hid (w.ownsRow w.heap.size 29 6 (.slice none 0 0) (kp (qN t) l 0).length (psl (kp (qN t) l 0))) := Lib.hid (World.ownsRow_nil _ _ _ _)
  obtain ⟨q, hq⟩ : ∃ q, q = qN t := ⟨_, rfl⟩
  rw [← hq] at HC HE HO0 ⊢
  clear hA hn h2
  go_enter Try.func26, Try.ntmps26
  go_wp2_with fail
  go_loopw [5, 10] (fun v iv wr => ∃ (k : Nat) (u : Value), u = v ∧ iv = .int .i64 k ∧ k ≤ n ∧ Below w.heap.size w wr ∧ Hid (wr.ownsRow w.heap.size 29 6 u (kp q l k).length (psl (kp q l k)))) (fun _ iv _ => n - (intOf iv).toNat)
  case atStart => exact ⟨0, _, rfl, rfl, by omega, Below.refl _ _, HO0⟩
  case round =>
    obtain ⟨k, v, rfl, rfl, hk, hb, HO⟩ := hrel
    have hs := hb.size
    by_cases hlt : k < n
    · have hkl : k < l.length := by rw [HN.out]; exact hlt
      have hlt' : (k : Int) < (n : Int) := by omega
      have HKP := Lib.hid (kp_len q l k)
      obtain ⟨bk, off, rfl, hbl, hcs, -⟩ := HA.out k hkl
      have hcs := hcs.below hb hbl
      obtain ⟨p, hp⟩ : ∃ p, l.getD k pr0 = p := ⟨_, rfl⟩
      have HY := Lib.hid (fun h => kp_yes (q := q) hkl h); have HX := Lib.hid (fun h => kp_no (q := q) hkl h)
      rw [hp] at hcs HY HX
      have HC1 := Lib.hid (HC.out p)
      obtain ⟨x, hx⟩ : ∃ x, q p = x := ⟨_, rfl⟩
      rw [hx] at HC1
      obtain ⟨pn, fr, fe, ca, pr, pA, pN, pC, bs⟩ := p
      unfold Pr.cells at HC1 hcs
      simp only at HC1 hcs
      obtain ⟨e0, e1, e2, e3, e4, e5⟩ := hcs.all
      have HB1 : Hid (Below w.heap.size w (wr.alloc (.cells #[.string pn, .int .i64 fr, .int .i64 fe, .string ca, .bool pr, .slice pA pN pC] 29))) := Lib.hid (hb.alloc hs _)
      have HO1 : Hid ((wr.alloc (.cells #[.string pn, .int .i64 fr, .int .i64 fe, .string ca, .bool pr, .slice pA pN pC] 29)).ownsRow w.heap.size 29 6 v (kp q l k).length (psl (kp q l k))) := Lib.hid (HO.out.alloc _)
      have HP1 : Hid (Blk (wr.alloc (.cells #[.string pn, .int .i64 fr, .int .i64 fe, .string ca, .bool pr, .slice pA pN pC] 29)) wr.heap.size 29 #[.string pn, .int .i64 fr, .int .i64 fe, .string ca, .bool pr, .slice pA pN pC]) := Lib.hid (Blk.new _ _ _)
      obtain ⟨c0, c1, c2, c3, c4, c5⟩ := HP1.out.six
      clear hcs hkl hp
      obtain ⟨g, hg⟩ : ∃ g, wr.heap.size = g := ⟨_, rfl⟩
      rw [hg] at HP1 c0 c1 c2 c3 c4 c5
      cases x
      · have HO2 := Lib.hid (HX.out hx)
        clear hx HX HY HO
        go_wp2_with (go_at_call 29; (with_reducible refine (HC1.out _ HB1.out).mono ?_); rintro e w1 ⟨rfl, hb1⟩; have hb2 := HB1.out.trans (hb1.mono HB1.out.size); have HO3 := Lib.hid (own_keep HO1.out hb1); clear hb1)
        go_roundw
        case rel => exact ⟨k + 1, _, rfl, by go_num, by omega, hb2, Lib.hid (by rw [HO2.out]; exact HO3.out)⟩
        case measure => simp [intOf]; omega
      · have HO2 := Lib.hid (HY.out hx)
        clear hx HX HY HO
        go_wp2_with (first
          | (go_at_call 29; (with_reducible refine (HC1.out _ HB1.out).mono ?_); rintro e w1 ⟨rfl, hb1⟩; have hb2 := HB1.out.trans (hb1.mono HB1.out.size); have HO3 := Lib.hid (own_keep HO1.out hb1); obtain ⟨c0, c1, c2, c3, c4, c5⟩ := (HP1.out.below hb1 HP1.out.lt).six; clear hb1)
          | (at_builtin; refine wpList_append_own_at _ rfl (.tmp 17) (.tmp 19) 22 rfl w.heap.size 29 i0 _ 6 80 Try.underlying22 hi0 hz0 hz1 hz2 rfl (by decide) _ _ (psl (kp q l k)) rfl (HO3.out.alloc _) ⟨w1.heap.size, 0, none⟩ 1 1 (psl [⟨pn, fr, fe, ca, pr, pA, pN, pC, bs⟩]) rfl (by rw [psl_len]; rfl) (blk_src (p := ⟨pn, fr, fe, ca, pr, pA, pN, pC, bs⟩) (Blk.new w1 29 _)) (psl_one _) (by have := HKP.out; unfold maxLen; omega) (by have := HKP.out; omega) (by have := hb2.size; simp; omega) ?_; intro v4 w4 g1 g2 _ g3; have HO4 := Lib.hid g1; have hb4 := below_grown (hb2.alloc hb2.size _) g2 (fun k hk => (World.ownsRow.lt HO3.out k hk).1) (by have := hb2.size; simp; omega); clear g1 g2 g3))
        go_roundw
        case rel => exact ⟨k + 1, _, rfl, by go_num, by omega, hb4, Lib.hid (by rw [HO2.out, List.length_append, psl_app]; exact HO4.out)⟩
        case measure => simp [intOf]; omega
    · obtain rfl : k = n := by omega
      go_wp2_with fail
      go_ret
      refine ⟨_, rfl, ?_, hb⟩
      have h := HO.out
      rw [← HN.out, HE.out] at h
      exact h
end Go.Proofs.Ythjckkcafhiomaa.Pd
