/- The chapter's examples: their products, and what the calls answer for them. -/
import Derived.Test.YthjckkcafhiomaaPdQf
import Derived.Test.YthjckkcafhiomaaPdFw
import Derived.Test.YthjckkcafhiomaaPdSa
import Derived.Test.YthjckkcafhiomaaPdRt
import Derived.Deep.RegionHeld3
namespace Go.Proofs.Ythjckkcafhiomaa.Pd
open Go.RowKit

def p1 : Pr := ⟨⟨#[102, 108, 97, 116]⟩, 0, 100, ⟨#[102, 101, 101, 115]⟩, false, none, 0, 0, []⟩
def p2 : Pr := ⟨⟨#[102, 108, 97, 116]⟩, 1000, 120, ⟨#[102, 101, 101, 115]⟩, false, none, 0, 0, []⟩
theorem ok1 (w : World) : PrOk w p1 := ⟨rfl, Nat.le_refl _, by decide, fun _ => rfl, BnR.nil, by decide, by decide⟩
theorem ok2 (w : World) : PrOk w p2 := ⟨rfl, Nat.le_refl _, by decide, fun _ => rfl, BnR.nil, by decide, by decide⟩
theorem bad12 : bad p1 p2 = false := by
  unfold bad
  rw [show sLt p2.nm p1.nm = false from sLt_irrefl _]
  decide
theorem bad21 : bad p2 p1 = true := by
  unfold bad
  rw [show sLt p1.nm p2.nm = false from sLt_irrefl _]
  decide
theorem ck1 : ckP p1 = 0 := by decide +kernel
theorem ck2 : ckP p2 = 0 := by decide +kernel
theorem ck_12 : ckL [p1, p2] = 0 := by
  have h0 : pAt [p1, p2] 0 = 0 := pAt_0 ck1
  have h1 : pAt [p1, p2] 1 = 0 := by rw [pAt_b (l := [p1, p2]) (i := 1) (v := false) ck2 (by omega) bad12]; rfl
  rw [ckL_go (by decide)]
  exact fst0_next (fst0_next rfl h0) h1
theorem ck_21 : ckL [p2, p1] = 9 := by
  have h0 : pAt [p2, p1] 0 = 0 := pAt_0 ck2
  have h1 : pAt [p2, p1] 1 = 9 := by rw [pAt_b (l := [p2, p1]) (i := 1) (v := true) ck1 (by omega) bad21]; rfl
  rw [ckL_go (by decide)]
  exact fst0_hit (fst0_next rfl h0) h1 (by decide) (by decide)
theorem ex_fees : feesP [p1, p2] ⟨#[102, 108, 97, 116]⟩ 500 1500 = [(500, 1000, 100), (1000, 1500, 120)] := by decide +kernel
theorem ex_at : verA [p1, p2] ⟨#[102, 108, 97, 116]⟩ 999 = some p1 := by
  have : ([p1, p2].filter (qA ⟨#[102, 108, 97, 116]⟩ 999)) = [p1] := by
    rw [List.filter_cons, if_pos (by decide +kernel), List.filter_cons, if_neg (by decide +kernel)]; rfl
  unfold verA; rw [this]; rfl
theorem ex_n1 : namesP [p2] 999 = [] := by
  unfold namesP
  rw [List.filter_cons, if_neg (by decide +kernel)]; rfl
theorem ex_n2 : namesP [p1, p2] 1000 = [⟨#[102, 108, 97, 116]⟩] := by
  unfold namesP
  rw [List.filter_cons, if_pos (by decide +kernel), List.filter_cons, if_pos (by decide +kernel)]
  show cmpl ([⟨#[102, 108, 97, 116]⟩] ++ [⟨#[102, 108, 97, 116]⟩]) = _
  rw [cmpl_snoc, if_pos (show ([⟨#[102, 108, 97, 116]⟩] : List ByteArray).getLast? = some ⟨#[102, 108, 97, 116]⟩ from rfl), List.append_nil]
  show cmpl ([] ++ [⟨#[102, 108, 97, 116]⟩]) = _
  rw [cmpl_snoc, if_neg (show ¬ ([] : List ByteArray).getLast? = some ⟨#[102, 108, 97, 116]⟩ by simp)]; rfl
theorem two_prs {w : World} {g : Nat} (h : Blk w g 29 #[.string ⟨#[102, 108, 97, 116]⟩, .int .i64 0, .int .i64 100, .string ⟨#[102, 101, 101, 115]⟩, .bool false, .slice none 0 0, .string ⟨#[102, 108, 97, 116]⟩, .int .i64 1000, .int .i64 120, .string ⟨#[102, 101, 101, 115]⟩, .bool false, .slice none 0 0]) : PrR w (some ⟨g, 0, none⟩) [p1, p2] := fun k hk => by
  match k, hk with
  | 0, _ => exact ⟨g, 0, rfl, h.lt, fun i hi => by match i, hi with | 0, _ => exact h.cell 0 | 1, _ => exact h.cell 1 | 2, _ => exact h.cell 2 | 3, _ => exact h.cell 3 | 4, _ => exact h.cell 4 | 5, _ => exact h.cell 5, ok1 w⟩
  | 1, _ => exact ⟨g, 0, rfl, h.lt, fun i hi => by match i, hi with | 0, _ => exact h.cell 6 | 1, _ => exact h.cell 7 | 2, _ => exact h.cell 8 | 3, _ => exact h.cell 9 | 4, _ => exact h.cell 10 | 5, _ => exact h.cell 11, ok2 w⟩
theorem two_prs' {w : World} {g : Nat} (h : Blk w g 29 #[.string ⟨#[102, 108, 97, 116]⟩, .int .i64 1000, .int .i64 120, .string ⟨#[102, 101, 101, 115]⟩, .bool false, .slice none 0 0, .string ⟨#[102, 108, 97, 116]⟩, .int .i64 0, .int .i64 100, .string ⟨#[102, 101, 101, 115]⟩, .bool false, .slice none 0 0]) : PrR w (some ⟨g, 0, none⟩) [p2, p1] := fun k hk => by
  match k, hk with
  | 0, _ => exact ⟨g, 0, rfl, h.lt, fun i hi => by match i, hi with | 0, _ => exact h.cell 0 | 1, _ => exact h.cell 1 | 2, _ => exact h.cell 2 | 3, _ => exact h.cell 3 | 4, _ => exact h.cell 4 | 5, _ => exact h.cell 5, ok2 w⟩
  | 1, _ => exact ⟨g, 0, rfl, h.lt, fun i hi => by match i, hi with | 0, _ => exact h.cell 6 | 1, _ => exact h.cell 7 | 2, _ => exact h.cell 8 | 3, _ => exact h.cell 9 | 4, _ => exact h.cell 10 | 5, _ => exact h.cell 11, ok1 w⟩
theorem one_pr {w : World} {g : Nat} (h : Blk w g 29 #[.string ⟨#[102, 108, 97, 116]⟩, .int .i64 0, .int .i64 100, .string ⟨#[102, 101, 101, 115]⟩, .bool false, .slice none 0 0, .string ⟨#[102, 108, 97, 116]⟩, .int .i64 1000, .int .i64 120, .string ⟨#[102, 101, 101, 115]⟩, .bool false, .slice none 0 0]) : PrR w (some ⟨g, 6, none⟩) [p2] := fun k hk => by
  match k, hk with
  | 0, _ => exact ⟨g, 6, rfl, h.lt, fun i hi => by match i, hi with | 0, _ => exact h.cell 6 | 1, _ => exact h.cell 7 | 2, _ => exact h.cell 8 | 3, _ => exact h.cell 9 | 4, _ => exact h.cell 10 | 5, _ => exact h.cell 11, ok2 w⟩
theorem awFe (g : Nat) (w : World) (h : Blk w g 29 #[.string ⟨#[102, 108, 97, 116]⟩, .int .i64 0, .int .i64 100, .string ⟨#[102, 101, 101, 115]⟩, .bool false, .slice none 0 0, .string ⟨#[102, 108, 97, 116]⟩, .int .i64 1000, .int .i64 120, .string ⟨#[102, 101, 101, 115]⟩, .bool false, .slice none 0 0]) : Calls Try.prog 20 #[.slice (some ⟨g, 0, none⟩) 2 2, .string ⟨#[102, 108, 97, 116]⟩, .agg #[.int .i64 500, .int .i64 1500]] w (FdOut [(500, 1000, 100), (1000, 1500, 120)] w) := by
  have := fees_any (some ⟨g, 0, none⟩) 2 2 [p1, p2] ⟨#[102, 108, 97, 116]⟩ 500 1500 w (two_prs h) rfl (by decide)
  rwa [ex_fees] at this
theorem awAt (g : Nat) (w : World) (h : Blk w g 29 #[.string ⟨#[102, 108, 97, 116]⟩, .int .i64 0, .int .i64 100, .string ⟨#[102, 101, 101, 115]⟩, .bool false, .slice none 0 0, .string ⟨#[102, 108, 97, 116]⟩, .int .i64 1000, .int .i64 120, .string ⟨#[102, 101, 101, 115]⟩, .bool false, .slice none 0 0]) : Calls Try.prog 13 #[.slice (some ⟨g, 0, none⟩) 2 2, .string ⟨#[102, 108, 97, 116]⟩, .int .i64 999] w fun e w' => ∃ p' : Pr, e = .returned (.tuple #[.agg p'.cells, .bool true]) ∧ p'.fe = 100 ∧ Below w.heap.size w w' := by
  have := at_any (some ⟨g, 0, none⟩) 2 2 [p1, p2] ⟨#[102, 108, 97, 116]⟩ 999 w (two_prs h) rfl (by decide) (by simp [p1, p2])
  rw [ex_at] at this
  exact this.mono fun e w' ⟨p', he, _, hd, hb⟩ => ⟨p', he, hd.fe, hb⟩
theorem awCk (g : Nat) (w : World) (h : Blk w g 29 #[.string ⟨#[102, 108, 97, 116]⟩, .int .i64 0, .int .i64 100, .string ⟨#[102, 101, 101, 115]⟩, .bool false, .slice none 0 0, .string ⟨#[102, 108, 97, 116]⟩, .int .i64 1000, .int .i64 120, .string ⟨#[102, 101, 101, 115]⟩, .bool false, .slice none 0 0]) : Calls Try.prog 10 #[.slice (some ⟨g, 0, none⟩) 2 2] w fun e w' => e = .returned (.int .i64 0) ∧ Below w.heap.size w w' := by
  have := check_any (some ⟨g, 0, none⟩) 2 2 [p1, p2] w (two_prs h) rfl (by decide)
  rwa [ck_12] at this
theorem awCk2 (w : World) : Calls Try.prog 10 #[.slice (some ⟨w.heap.size, 0, none⟩) 2 2] (w.alloc (.cells #[.string ⟨#[102, 108, 97, 116]⟩, .int .i64 1000, .int .i64 120, .string ⟨#[102, 101, 101, 115]⟩, .bool false, .slice none 0 0, .string ⟨#[102, 108, 97, 116]⟩, .int .i64 0, .int .i64 100, .string ⟨#[102, 101, 101, 115]⟩, .bool false, .slice none 0 0] 29)) fun e w' => e = .returned (.int .i64 9) ∧ Below w.heap.size w w' := by
  have := check_any (some ⟨w.heap.size, 0, none⟩) 2 2 [p2, p1] _ (two_prs' (Blk.new w _ _)) rfl (by decide)
  rw [ck_21] at this
  exact this.mono fun e w' ⟨he, hb⟩ => ⟨he, (below_one w _).trans (hb.mono (by simp))⟩
theorem awN1 (g : Nat) (w : World) (h : Blk w g 29 #[.string ⟨#[102, 108, 97, 116]⟩, .int .i64 0, .int .i64 100, .string ⟨#[102, 101, 101, 115]⟩, .bool false, .slice none 0 0, .string ⟨#[102, 108, 97, 116]⟩, .int .i64 1000, .int .i64 120, .string ⟨#[102, 101, 101, 115]⟩, .bool false, .slice none 0 0]) : Calls Try.prog 17 #[.slice (some ⟨g, 6, none⟩) 1 1, .int .i64 999] w fun e w' => ∃ A c, e = .returned (.slice A 0 c) ∧ Below w.heap.size w w' := by
  have := names_any (some ⟨g, 6, none⟩) 1 1 [p2] 999 w (one_pr h) rfl (by decide)
  rw [ex_n1] at this
  exact this.mono fun e w' ⟨A, c, he, _, _, _, hb⟩ => ⟨A, c, he, hb⟩
theorem awN2 (g : Nat) (w : World) (h : Blk w g 29 #[.string ⟨#[102, 108, 97, 116]⟩, .int .i64 0, .int .i64 100, .string ⟨#[102, 101, 101, 115]⟩, .bool false, .slice none 0 0, .string ⟨#[102, 108, 97, 116]⟩, .int .i64 1000, .int .i64 120, .string ⟨#[102, 101, 101, 115]⟩, .bool false, .slice none 0 0]) : Calls Try.prog 17 #[.slice (some ⟨g, 0, none⟩) 2 2, .int .i64 1000] w fun e w' => ∃ A c, e = .returned (.slice A 1 c) ∧ Below w.heap.size w w' := by
  have := names_any (some ⟨g, 0, none⟩) 2 2 [p1, p2] 1000 w (two_prs h) rfl (by decide)
  rw [ex_n2] at this
  exact this.mono fun e w' ⟨A, c, he, _, _, _, hb⟩ => ⟨A, c, he, hb⟩
/-- What the examples hold in memory. -/
def Ex (w : World) (g gf of gp : Nat) : Prop := w.cell? ⟨g, 0, none⟩ = some (.string ⟨#[102, 108, 97, 116]⟩) ∧ w.cell? ⟨g, 1, none⟩ = some (.int .i64 0) ∧ w.cell? ⟨g, 2, none⟩ = some (.int .i64 100) ∧ w.cell? ⟨g, 3, none⟩ = some (.string ⟨#[102, 101, 101, 115]⟩) ∧ w.cell? ⟨g, 4, none⟩ = some (.bool false) ∧ w.cell? ⟨g, 5, none⟩ = some (.slice none 0 0) ∧ w.cell? ⟨g, 6, none⟩ = some (.string ⟨#[102, 108, 97, 116]⟩) ∧ w.cell? ⟨g, 7, none⟩ = some (.int .i64 1000) ∧ w.cell? ⟨g, 8, none⟩ = some (.int .i64 120) ∧ w.cell? ⟨g, 9, none⟩ = some (.string ⟨#[102, 101, 101, 115]⟩) ∧ w.cell? ⟨g, 10, none⟩ = some (.bool false) ∧ w.cell? ⟨g, 11, none⟩ = some (.slice none 0 0) ∧ w.cell? ⟨gf, of, none⟩ = some (.int .i64 500) ∧ w.cell? ⟨gf, of + 1, none⟩ = some (.int .i64 1000) ∧ w.cell? ⟨gf, of + 2, none⟩ = some (.int .i64 100) ∧ w.cell? ⟨gf, of + 3, none⟩ = some (.int .i64 1000) ∧ w.cell? ⟨gf, of + 3 + 1, none⟩ = some (.int .i64 1500) ∧ w.cell? ⟨gf, of + 3 + 2, none⟩ = some (.int .i64 120) ∧ w.cell? ⟨gp, 2, none⟩ = some (.int .i64 100)
theorem Ex.below {w w' : World} {g gf of gp B : Nat} (k : Ex w g gf of gp) (hb : Below B w w') (h1 : g < B) (h2 : gf < B) (h3 : gp < B) : Ex w' g gf of gp := by
  obtain ⟨k0, k1, k2, k3, k4, k5, k6, k7, k8, k9, k10, k11, k12, k13, k14, k15, k16, k17, k18⟩ := k
  exact ⟨(hb.cell (p := ⟨g, 0, none⟩) h1).trans k0, (hb.cell (p := ⟨g, 1, none⟩) h1).trans k1, (hb.cell (p := ⟨g, 2, none⟩) h1).trans k2, (hb.cell (p := ⟨g, 3, none⟩) h1).trans k3, (hb.cell (p := ⟨g, 4, none⟩) h1).trans k4, (hb.cell (p := ⟨g, 5, none⟩) h1).trans k5, (hb.cell (p := ⟨g, 6, none⟩) h1).trans k6, (hb.cell (p := ⟨g, 7, none⟩) h1).trans k7, (hb.cell (p := ⟨g, 8, none⟩) h1).trans k8, (hb.cell (p := ⟨g, 9, none⟩) h1).trans k9, (hb.cell (p := ⟨g, 10, none⟩) h1).trans k10, (hb.cell (p := ⟨g, 11, none⟩) h1).trans k11, (hb.cell (p := ⟨gf, of, none⟩) h2).trans k12, (hb.cell (p := ⟨gf, of + 1, none⟩) h2).trans k13, (hb.cell (p := ⟨gf, of + 2, none⟩) h2).trans k14, (hb.cell (p := ⟨gf, of + 3, none⟩) h2).trans k15, (hb.cell (p := ⟨gf, of + 3 + 1, none⟩) h2).trans k16, (hb.cell (p := ⟨gf, of + 3 + 2, none⟩) h2).trans k17, (hb.cell (p := ⟨gp, 2, none⟩) h3).trans k18⟩
theorem drew_self (w : World) : Below w.heap.size w w.drew := (Below.refl _ w).drew
end Go.Proofs.Ythjckkcafhiomaa.Pd
