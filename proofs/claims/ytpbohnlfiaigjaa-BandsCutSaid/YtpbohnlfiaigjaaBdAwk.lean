/- Walk: the chapter's examples hold. -/
import Derived.Test.YtpbohnlfiaigjaaBdAwk0
import Derived.Deep.RegionHeld3
namespace Go.Proofs.Ytpbohnlfiaigjaa
open Go.RowKit

/-- The list of the examples in memory; its pieces; the piece that is compared. -/
def Wk (w : World) (g h : Nat) : Prop := Blk w h 88 #[.int .i64 31, .int .i64 480, .int .i64 1080] ∧ Blk w g 25 #[.string ⟨#[119, 111, 114, 107]⟩, .slice (some ⟨h, 0, none⟩) 1 1, .string ⟨#[102, 114, 101, 101]⟩, .slice none 0 0]
theorem Wk.below {w w' : World} {g h : Nat} (k : Wk w g h) (hb : Below w.heap.size w w') : Wk w' g h := ⟨k.1.below hb k.1.lt, k.2.below hb k.2.lt⟩
theorem Wk.bd {w : World} {g h : Nat} (k : Wk w g h) : BdR w (some ⟨g, 0, none⟩) wk :=
  bd_two k.2 rfl (by omega) (by decide) (sl_one k.1) rfl (by omega) (by decide) SlR.nil (by decide) (by decide)
theorem awCut (g h : Nat) (w : World) (k : Wk w g h) : Calls Try.prog 21 #[.slice (some ⟨g, 0, none⟩) 2 2, .slice none 0 0, .agg #[.int .i64 172800, .int .i64 259200]] w (PcOut pcs w) := by
  have := cut_w (some ⟨g, 0, none⟩) none 2 2 0 0 wk [] 172800 259200 w k.bd rfl (by omega) (by decide) IR.nil rfl (by omega) (by decide) (fun _ => by decide)
  rwa [wk_cut] at this
theorem awAt (g h : Nat) (A : Option Addr) (hol : List Int) (m : Nat) (t : Int) (v : ByteArray) (hv : atW wk hol t = v) (w : World) (k : Wk w g h) (hA : IR w A hol) (hh : hol.length = m) (hm : m ≤ 10) : Calls Try.prog 18 #[.slice (some ⟨g, 0, none⟩) 2 2, .slice A m m, .int .i64 t] w fun e w' => e = .returned (.string v) ∧ Below w.heap.size w w' := by
  subst hv
  exact at_any (some ⟨g, 0, none⟩) A 2 2 m m wk hol t w k.bd rfl (by omega) (by decide) hA hh (Nat.le_refl _) (by unfold maxLen; omega)
theorem awSec (g h : Nat) (w : World) (k : Wk w g h) : Calls Try.prog 23 #[.slice (some ⟨g, 0, none⟩) 2 2, .slice none 0 0, .agg #[.int .i64 172800, .int .i64 259200], .string ⟨#[119, 111, 114, 107]⟩] w fun e w' => e = .returned (.int .i64 36000) ∧ Below w.heap.size w w' := by
  have := seconds_any (some ⟨g, 0, none⟩) none 2 2 0 0 wk [] 172800 259200 ⟨#[119, 111, 114, 107]⟩ w k.bd rfl (by omega) (by decide) IR.nil rfl (by omega) (by decide) (fun _ => by decide)
  rwa [show secs (cutW wk [] 172800 259200) ⟨#[119, 111, 114, 107]⟩ = 36000 from wk_sec] at this
theorem awCk (g h : Nat) (w : World) (k : Wk w g h) : Calls Try.prog 15 #[.slice (some ⟨g, 0, none⟩) 2 2] w fun e w' => e = .returned (.int .i64 0) ∧ Below w.heap.size w w' :=
  check_is (some ⟨g, 0, none⟩) 2 2 wk 0 wk_ck w k.bd rfl (by omega) (by decide)
theorem awCk2 (g h : Nat) (w : World) (k : Wk w g h) :
    Calls Try.prog 15 #[.slice (some ⟨w.heap.size, 0, none⟩) 2 2] (w.alloc (.cells #[.string ⟨#[102, 114, 101, 101]⟩, .slice none 0 0, .string ⟨#[119, 111, 114, 107]⟩, .slice (some ⟨h, 0, none⟩) 1 1] 25)) fun e w' => e = .returned (.int .i64 8) ∧ Below w.heap.size w w' := by
  have k2 := k.below ((Below.refl _ w).alloc (Nat.le_refl _) (.cells #[.string ⟨#[102, 114, 101, 101]⟩, .slice none 0 0, .string ⟨#[119, 111, 114, 107]⟩, .slice (some ⟨h, 0, none⟩) 1 1] 25))
  have hB := bd_two (ss := []) (ss' := [(31, 480, 1080)]) (Blk.new w 25 #[.string ⟨#[102, 114, 101, 101]⟩, .slice none 0 0, .string ⟨#[119, 111, 114, 107]⟩, .slice (some ⟨h, 0, none⟩) 1 1]) rfl (by omega) (by decide) SlR.nil rfl (by omega) (by decide) (sl_one k2.1) (by decide) (by decide)
  refine (check_is _ 2 2 _ 8 wk_bad _ hB rfl (by omega) (by decide)).mono ?_
  rintro e w' ⟨he, hb⟩
  exact ⟨he, ((Below.refl _ w).alloc (Nat.le_refl _) _).trans (hb.mono (by simp))⟩
/-- Ten cells. -/
def TenC (w : World) (g h gp op gm : Nat) : Prop := w.cell? ⟨g, 0, none⟩ = some (.string ⟨#[119, 111, 114, 107]⟩) ∧ w.cell? ⟨g, 1, none⟩ = some (.slice (some ⟨h, 0, none⟩) 1 1) ∧ w.cell? ⟨g, 2, none⟩ = some (.string ⟨#[102, 114, 101, 101]⟩) ∧ w.cell? ⟨g, 3, none⟩ = some (.slice none 0 0) ∧
  w.cell? ⟨gp, op + 3, none⟩ = some (.string ⟨#[119, 111, 114, 107]⟩) ∧ w.cell? ⟨gp, op + 4, none⟩ = some (.int .i64 201600) ∧ w.cell? ⟨gp, op + 5, none⟩ = some (.int .i64 237600) ∧
  w.cell? ⟨gm, 0, none⟩ = some (.string ⟨#[119, 111, 114, 107]⟩) ∧ w.cell? ⟨gm, 1, none⟩ = some (.int .i64 201600) ∧ w.cell? ⟨gm, 2, none⟩ = some (.int .i64 237600)
theorem TenC.below {w w' : World} {g h gp op gm B : Nat} (k : TenC w g h gp op gm) (hb : Below B w w') (h1 : g < B) (h2 : gp < B) (h3 : gm < B) : TenC w' g h gp op gm := by
  obtain ⟨a, b, c, d, e, f, i, j, m, n⟩ := k
  exact ⟨(hb.cell (p := ⟨g, 0, none⟩) h1).trans a, (hb.cell (p := ⟨g, 1, none⟩) h1).trans b, (hb.cell (p := ⟨g, 2, none⟩) h1).trans c, (hb.cell (p := ⟨g, 3, none⟩) h1).trans d,
    (hb.cell (p := ⟨gp, op + 3, none⟩) h2).trans e, (hb.cell (p := ⟨gp, op + 4, none⟩) h2).trans f, (hb.cell (p := ⟨gp, op + 5, none⟩) h2).trans i, (hb.cell (p := ⟨gm, 0, none⟩) h3).trans j, (hb.cell (p := ⟨gm, 1, none⟩) h3).trans m, (hb.cell (p := ⟨gm, 2, none⟩) h3).trans n⟩
theorem aw_1 : atW wk [] 201600 = ⟨#[119, 111, 114, 107]⟩ := wk_at1
theorem aw_2 : atW wk [] 201599 = ⟨#[102, 114, 101, 101]⟩ := wk_at2
theorem aw_3 : atW wk [2] 201600 = ⟨#[102, 114, 101, 101]⟩ := wk_at3
theorem irTwo (w : World) : IR (w.alloc (.cells #[.int .i64 2] 3)) (some ⟨w.heap.size, 0, none⟩) [2] := fun k hk => by
  match k, hk with
  | 0, _ => exact ⟨w.heap.size, 0, rfl, by simp, (Blk.new w 3 #[.int .i64 2]).cell 0⟩
set_option maxRecDepth 100000 in
set_option maxHeartbeats 16000000 in
theorem awake_any (w : World) : Calls Try.prog 14 #[] w fun e w' => e = .returned (.bool true) ∧ Below w.heap.size w w' := by
  go_enter Try.func14, Try.ntmps14
  go_wp2_with (first
    | (go_at_call 43; (with_reducible refine (week_any _).mono ?_); rintro e w1 ⟨g, h, rfl, k1, k2, hb1⟩; have HK1 := Lib.hid (show Wk w1 g h from ⟨k1, k2⟩); have hs1 := hb1.size; clear k1 k2)
    | (go_at_call 21; (with_reducible refine (awCut g h w1 HK1.out).mono ?_); rintro e w2 ⟨R, r, rfl, hr, hr2, hP, hb2⟩; have HP := Lib.hid hP; have HK2 := Lib.hid (HK1.out.below hb2); have hb3 := hb1.trans (hb2.mono hs1); have hs3 := hb3.size; clear hP))
  obtain ⟨gp, op, rfl, hl2, q0, q1, q2⟩ := HP.out 1 (by decide)
  have HK3 := Lib.hid (HK2.out.below ((Below.refl _ w2).alloc (Nat.le_refl _) (.cells #[.string ⟨#[119, 111, 114, 107]⟩, .int .i64 201600, .int .i64 237600] 45)))
  have HT3 : Hid (TenC (w2.alloc (.cells #[.string ⟨#[119, 111, 114, 107]⟩, .int .i64 201600, .int .i64 237600] 45)) g h gp op w2.heap.size) := Lib.hid (by
    have hB := (Below.refl _ w2).alloc (Nat.le_refl _) (.cells #[.string ⟨#[119, 111, 114, 107]⟩, .int .i64 201600, .int .i64 237600] 45)
    have hM := Blk.new w2 45 #[.string ⟨#[119, 111, 114, 107]⟩, .int .i64 201600, .int .i64 237600]
    have k := HK3.out.2
    exact ⟨k.cell 0, k.cell 1, k.cell 2, k.cell 3, (hB.cell (p := ⟨gp, op + 3, none⟩) hl2).trans q0, (hB.cell (p := ⟨gp, op + 4, none⟩) hl2).trans q1, (hB.cell (p := ⟨gp, op + 5, none⟩) hl2).trans q2, hM.cell 0, hM.cell 1, hM.cell 2⟩)
  have hbW : Below w.heap.size w (w2.alloc (.cells #[.string ⟨#[119, 111, 114, 107]⟩, .int .i64 201600, .int .i64 237600] 45)) := hb3.alloc hs3 _
  obtain ⟨W3, hW3⟩ : ∃ W, w2.alloc (.cells #[.string ⟨#[119, 111, 114, 107]⟩, .int .i64 201600, .int .i64 237600] 45) = W := ⟨_, rfl⟩
  have l1 : g < W3.heap.size := by rw [← hW3]; exact HK3.out.2.lt
  have l2 : gp < W3.heap.size := by rw [← hW3]; simp; omega
  have l3 : w2.heap.size < W3.heap.size := by rw [← hW3]; simp
  rw [hW3] at HK3 HT3 hbW ⊢
  rw [show pcs.length = 3 from rfl] at hr ⊢
  obtain ⟨x0, x1, x2, x3, x4, x5, x6, x7, x8, x9⟩ := HT3.out
  have heq := eqPiece_same ⟨#[119, 111, 114, 107]⟩ 201600 237600
  have hgd := guardPiece
  clear hW3 q0 q1 q2 hl2 hb1 hb2 hb3 hs1 hs3 HK1 HK2 HP
  go_region_held3 (fun w' => w'.cell? ⟨g, 0, none⟩ = some (.string ⟨#[119, 111, 114, 107]⟩) ∧ w'.cell? ⟨g, 1, none⟩ = some (.slice (some ⟨h, 0, none⟩) 1 1) ∧ w'.cell? ⟨g, 2, none⟩ = some (.string ⟨#[102, 114, 101, 101]⟩) ∧ w'.cell? ⟨g, 3, none⟩ = some (.slice none 0 0) ∧ w'.cell? ⟨gp, op + 3, none⟩ = some (.string ⟨#[119, 111, 114, 107]⟩) ∧ w'.cell? ⟨gp, op + 4, none⟩ = some (.int .i64 201600) ∧ w'.cell? ⟨gp, op + 5, none⟩ = some (.int .i64 237600) ∧ w'.cell? ⟨w2.heap.size, 0, none⟩ = some (.string ⟨#[119, 111, 114, 107]⟩) ∧ w'.cell? ⟨w2.heap.size, 1, none⟩ = some (.int .i64 201600) ∧ w'.cell? ⟨w2.heap.size, 2, none⟩ = some (.int .i64 237600))
    (go_keep)
    (first
      | (go_at_call 18; (with_reducible refine (awAt g h none [] 0 201600 ⟨#[119, 111, 114, 107]⟩ aw_1 _ (HK3.out.below (drew_self _)) IR.nil rfl (by omega)).mono ?_); rintro e w4 ⟨rfl, hb4⟩; have HK4 := Lib.hid ((HK3.out.below (drew_self _)).below hb4); have HT4 := Lib.hid ((HT3.out.below (drew_self _) l1 l2 l3).below hb4 l1 l2 l3); have z4 : W3.heap.size ≤ w4.heap.size := hb4.size; obtain ⟨y4_0, y4_1, y4_2, y4_3, y4_4, y4_5, y4_6, y4_7, y4_8, y4_9⟩ := HT4.out)
      | (go_at_call 18; (with_reducible refine (awAt g h none [] 0 201599 ⟨#[102, 114, 101, 101]⟩ aw_2 _ HK4.out IR.nil rfl (by omega)).mono ?_); rintro e w5 ⟨rfl, hb5⟩; have HK5 := Lib.hid (HK4.out.below hb5); have HT5 := Lib.hid (HT4.out.below hb5 (Nat.lt_of_lt_of_le l1 z4) (Nat.lt_of_lt_of_le l2 z4) (Nat.lt_of_lt_of_le l3 z4)); have z5 : W3.heap.size ≤ w5.heap.size := Nat.le_trans z4 hb5.size; obtain ⟨y5_0, y5_1, y5_2, y5_3, y5_4, y5_5, y5_6, y5_7, y5_8, y5_9⟩ := HT5.out)
      | (go_at_call 18; (with_reducible refine (awAt g h _ [2] 1 201600 ⟨#[102, 114, 101, 101]⟩ aw_3 _ (HK5.out.below ((Below.refl _ w5).alloc (Nat.le_refl _) _)) (irTwo _) rfl (by omega)).mono ?_); rintro e w6 ⟨rfl, hb6'⟩; have hb6 := ((Below.refl _ w5).alloc (Nat.le_refl _) (.cells #[.int .i64 2] 3)).trans (hb6'.mono (by simp)); clear hb6'; have HK6 := Lib.hid (HK5.out.below hb6); have HT6 := Lib.hid (HT5.out.below hb6 (Nat.lt_of_lt_of_le l1 z5) (Nat.lt_of_lt_of_le l2 z5) (Nat.lt_of_lt_of_le l3 z5)); have z6 : W3.heap.size ≤ w6.heap.size := Nat.le_trans z5 hb6.size; obtain ⟨y6_0, y6_1, y6_2, y6_3, y6_4, y6_5, y6_6, y6_7, y6_8, y6_9⟩ := HT6.out)
      | (go_at_call 23; (with_reducible refine (awSec g h _ HK6.out).mono ?_); rintro e w7 ⟨rfl, hb7⟩; have HK7 := Lib.hid (HK6.out.below hb7); have HT7 := Lib.hid (HT6.out.below hb7 (Nat.lt_of_lt_of_le l1 z6) (Nat.lt_of_lt_of_le l2 z6) (Nat.lt_of_lt_of_le l3 z6)); have z7 : W3.heap.size ≤ w7.heap.size := Nat.le_trans z6 hb7.size; obtain ⟨y7_0, y7_1, y7_2, y7_3, y7_4, y7_5, y7_6, y7_7, y7_8, y7_9⟩ := HT7.out)
      | (go_at_call 15; (with_reducible refine (awCk g h _ HK7.out).mono ?_); rintro e w8 ⟨rfl, hb8⟩; have HK8 := Lib.hid (HK7.out.below hb8); have HT8 := Lib.hid (HT7.out.below hb8 (Nat.lt_of_lt_of_le l1 z7) (Nat.lt_of_lt_of_le l2 z7) (Nat.lt_of_lt_of_le l3 z7)); have z8 : W3.heap.size ≤ w8.heap.size := Nat.le_trans z7 hb8.size; obtain ⟨y8_0, y8_1, y8_2, y8_3, y8_4, y8_5, y8_6, y8_7, y8_8, y8_9⟩ := HT8.out)
      | (go_at_call 15; (with_reducible refine (awCk2 g h w8 HK8.out).mono ?_); rintro e w9 ⟨rfl, hb9⟩; have HK9 := Lib.hid (HK8.out.below hb9); have HT9 := Lib.hid (HT8.out.below hb9 (Nat.lt_of_lt_of_le l1 z8) (Nat.lt_of_lt_of_le l2 z8) (Nat.lt_of_lt_of_le l3 z8)); have z9 : W3.heap.size ≤ w9.heap.size := Nat.le_trans z8 hb9.size; obtain ⟨y9_0, y9_1, y9_2, y9_3, y9_4, y9_5, y9_6, y9_7, y9_8, y9_9⟩ := HT9.out))
  have hc := ((((((drew_self W3).trans hb4).trans (hb5.mono z4)).trans (hb6.mono z5)).trans (hb7.mono z6)).trans (hb8.mono z7)).trans (hb9.mono z8)
  clear y4_0 y4_1 y4_2 y4_3 y4_4 y4_5 y4_6 y4_7 y4_8 y4_9 y5_0 y5_1 y5_2 y5_3 y5_4 y5_5 y5_6 y5_7 y5_8 y5_9
  go_wp2_with fail
  go_ret
  exact ⟨rfl, hbW.trans (hc.mono hbW.size)⟩
end Go.Proofs.Ytpbohnlfiaigjaa
