/- Walk: Record. -/
import Derived.Test.YtlcjpnagjiemiaaRows
import Derived.Test.YtlcjpnagjiemiaaCdS2
import Derived.Test.YtlcjpnagjiemiaaCdA
namespace Go.Proofs.Ytlcjpnagjiemiaa
open Go.RowKit

/-- What Record gives. -/
def RecP (l : List Int) (w : World) (e : Ending) (w' : World) : Prop :=
  ∃ v r, e = .returned (.tuple #[.agg r.cells, v, .int .i64 (recR (l, 0)).2.2]) ∧ ((recR (l, 0)).2.2 = 0 → r = (recR (l, 0)).1) ∧ ((recR (l, 0)).2.2 ≠ 0 → r = rc0) ∧ Own w' w.heap.size v (recR (l, 0)).2.1 ∧ Below w.heap.size w w'
set_option maxRecDepth 100000 in
set_option maxHeartbeats 4000000 in
theorem codRecord_any {A : Option Addr} {n c : Nat} {l : List Int} {w : World} (hA : Byt w A n c l) (hn : n ≤ 1000000000) :
    Calls Try.prog 24 #[.slice A n c] w (RecP l w) := by
  have hl := hA.len
  obtain ⟨W1, hW1⟩ : ∃ W1, w.alloc (.cells #[.int .i64 0, .int .i64 0, .int .i64 0, .string ⟨#[]⟩, .string ⟨#[]⟩, .int .i64 0, .int .i64 0, .int .i64 0, .int .i64 0, .bool false, .int .i64 0, .bool false] 40) = W1 := ⟨_, rfl⟩
  have b1 : Below w.heap.size w W1 := hW1 ▸ (Below.refl _ _).alloc (Nat.le_refl _) _
  have s1 : W1.heap.size = w.heap.size + 1 := by rw [← hW1]; simp
  have x1 : RcB W1 w.heap.size rc0 := by unfold RcB; rw [← hW1]; exact heap_alloc_new w (.cells rc0.cells 40)
  have hA1 := hA.below b1
  obtain ⟨g, hg⟩ : ∃ g, W1.heap.size = g := ⟨_, rfl⟩
  have hR : Rd W1 (W1.alloc (.cells #[.slice A n c, .int .i64 0] 54)) g l 0 := ⟨hg.symm, A, n, c, l, by rw [← hg]; exact heap_alloc_new _ _, hA1, fun _ => rfl, by rw [← hg]; exact below_lit _ _⟩
  have HN := Lib.hid (record_any hR (by rw [← hg]; simp))
  have hle := recR_len (l, 0)
  have herr := recR_err (l, 0)
  obtain ⟨⟨r, R, er⟩, hS⟩ : ∃ S, recR (l, 0) = S := ⟨_, rfl⟩
  rw [hS] at HN hle herr
  have hrc : r.cells = #[.int .i64 r.s0, .int .i64 r.s1, .int .i64 r.s2, .string r.sa, .string r.sb, .int .i64 r.s5, .int .i64 r.s6, .int .i64 r.s7, .int .i64 r.s8, .bool r.b9, .int .i64 r.s10, .bool r.b11] := rfl
  simp only [hrc] at HN
  have HRC := Lib.hid hrc; have HRZ : Hid (rc0.cells = #[.int .i64 0, .int .i64 0, .int .i64 0, .string ⟨#[]⟩, .string ⟨#[]⟩, .int .i64 0, .int .i64 0, .int .i64 0, .int .i64 0, .bool false, .int .i64 0, .bool false]) := Lib.hid rfl
  clear hrc
  have HS := Lib.hid hS; have HLE := Lib.hid hle; have HER := Lib.hid herr; have HL := Lib.hid hl; have HNN := Lib.hid hn
  have HB1 := Lib.hid b1; have HX1 := Lib.hid x1; have HG := Lib.hid (show w.heap.size < g by omega)
  clear hA hA1 hR hS hle herr hl hn b1 x1 s1
  by_cases her : er = 0
  · subst her
    go_enter Try.func24, Try.ntmps24
    go_wp2_with (first
      | (go_at_call 41; refine HN.out.mono ?_; rintro e w3 ⟨rfl, ⟨hg3, A1, n1, c1, ys, hB, hA3, hys, hb3⟩⟩; obtain rfl := hys rfl; obtain ⟨W4, hW4⟩ : ∃ W4, w3.alloc (.cells #[.int .i64 r.s0, .int .i64 r.s1, .int .i64 r.s2, .string r.sa, .string r.sb, .int .i64 r.s5, .int .i64 r.s6, .int .i64 r.s7, .int .i64 r.s8, .bool r.b9, .int .i64 r.s10, .bool r.b11] 40) = W4 := ⟨_, rfl⟩; have b4 : Below w3.heap.size w3 W4 := hW4 ▸ below_lit _ _; have x4 : RcB W4 w3.heap.size r := (by unfold RcB; rw [← hW4]; exact heap_alloc_new _ _); have hgl : g < w3.heap.size := (Array.getElem?_eq_some_iff.1 hB).1; have c0 := (b4.cell (p := ⟨g, 0, none⟩) hgl).trans hB.cell0; have c1' := (b4.cell (p := ⟨g, 1, none⟩) hgl).trans hB.cell1; obtain ⟨p0, p1, p2, p3, p4, p5, p6, p7, p8, p9, p10, p11⟩ := x4.cells; have K4 : Hid (Below g W1 W4) := Lib.hid (hb3.trans (b4.mono (Nat.le_of_lt hgl))); have hn1 : n1 ≤ 1000000000 := (by have h1 := HLE.out; have h2 := hA3.len; have h3 := HL.out; have h4 := HNN.out; simp only at h1; omega); have HR := resRec_ok r (hA3.below (hg3 ▸ K4.out)) hn1; rw [HRC.out] at HR; have HR := Lib.hid HR; have HGS := Lib.hid (show g ≤ W4.heap.size from Nat.le_trans (Nat.le_of_lt hgl) b4.size); clear hB hA3 hys hb3 hg3 x4 b4 hgl)
      | (go_at_call 42; refine HR.out.mono ?_; rintro e w5 ⟨v5, rfl, ho5, hb5⟩; have HO := Lib.hid ho5; have K5 := Lib.hid (K4.out.trans (hb5.mono HGS.out)); have X5 := HX1.out.below K5.out HG.out; obtain ⟨q0, q1, q2, q3, q4, q5, q6, q7, q8, q9, q10, q11⟩ := X5.cells; have hfr := X5.fr; have HX5 := Lib.hid X5; clear X5 ho5 hb5))
    refine bodyPost_ret (v := .tuple #[.agg r.cells, v5, .int .i64 0]) ?_ rfl ⟨v5, r, by rw [HS.out], fun _ => by rw [HS.out], fun h => absurd (by rw [HS.out]) h, ?_, ?_⟩
    · exact results_cell3 (p := 2) (u := 3) (v := 4) rfl _ _ w.heap.size 40 r.cells (0, 0) _ rfl (HX5.out.put r) Try.underlying40 rfl rfl
    · rw [HS.out]
      refine ⟨own_mono (b := g) ?_ (Nat.le_of_lt HG.out), HO.out.2⟩
      repeat' apply ownsRow_setCell_below
      all_goals first | exact own_mono HO.out.1 HGS.out | exact HG.out
    · repeat' apply Below.setCell
      all_goals first | exact HB1.out.trans (K5.out.mono (Nat.le_of_lt HG.out)) | exact Nat.le_refl _
  · go_enter Try.func24, Try.ntmps24
    go_wp2_with (first
      | (go_at_call 41; refine HN.out.mono ?_; rintro e w3 ⟨rfl, ⟨hg3, A1, n1, c1, ys, hB, hA3, hys, hb3⟩⟩; obtain ⟨W4, hW4⟩ : ∃ W4, w3.alloc (.cells #[.int .i64 r.s0, .int .i64 r.s1, .int .i64 r.s2, .string r.sa, .string r.sb, .int .i64 r.s5, .int .i64 r.s6, .int .i64 r.s7, .int .i64 r.s8, .bool r.b9, .int .i64 r.s10, .bool r.b11] 40) = W4 := ⟨_, rfl⟩; have b4 : Below w3.heap.size w3 W4 := hW4 ▸ below_lit _ _; have x4 : RcB W4 w3.heap.size r := (by unfold RcB; rw [← hW4]; exact heap_alloc_new _ _); have hgl : g < w3.heap.size := (Array.getElem?_eq_some_iff.1 hB).1; have c0 := (b4.cell (p := ⟨g, 0, none⟩) hgl).trans hB.cell0; have c1' := (b4.cell (p := ⟨g, 1, none⟩) hgl).trans hB.cell1; obtain ⟨p0, p1, p2, p3, p4, p5, p6, p7, p8, p9, p10, p11⟩ := x4.cells; have K4 : Hid (Below g W1 W4) := Lib.hid (hb3.trans (b4.mono (Nat.le_of_lt hgl))); have HR := resRec_err (A := A1) (n := n1) (c := c1) (w := W4) r her; rw [HRC.out, HRZ.out] at HR; have HR := Lib.hid HR; have HGS := Lib.hid (show g ≤ W4.heap.size from Nat.le_trans (Nat.le_of_lt hgl) b4.size); clear hB hA3 hys hb3 hg3 x4 b4 hgl)
      | (go_at_call 42; refine HR.out.mono ?_; rintro e w5 ⟨rfl, hb5⟩; have K5 := Lib.hid (K4.out.trans (hb5.mono HGS.out)); have X5 := HX1.out.below K5.out HG.out; obtain ⟨q0, q1, q2, q3, q4, q5, q6, q7, q8, q9, q10, q11⟩ := X5.cells; have hfr := X5.fr; have HX5 := Lib.hid X5; clear X5 hb5))
    have hz := HER.out her
    refine bodyPost_ret (v := .tuple #[.agg rc0.cells, .slice none 0 0, .int .i64 er]) ?_ rfl ⟨_, rc0, by rw [HS.out], fun h => absurd (by rw [HS.out] at h; exact h) her, fun _ => rfl, ?_, ?_⟩
    · exact results_cell3 (p := 2) (u := 3) (v := 4) rfl _ _ w.heap.size 40 rc0.cells (0, 0) _ rfl (HX5.out.put rc0) Try.underlying40 rfl rfl
    · rw [HS.out]; simp only at hz ⊢; rw [hz]; exact own_none _ _
    · repeat' apply Below.setCell
      all_goals first | exact HB1.out.trans (K5.out.mono (Nat.le_of_lt HG.out)) | exact Nat.le_refl _
end Go.Proofs.Ytlcjpnagjiemiaa
