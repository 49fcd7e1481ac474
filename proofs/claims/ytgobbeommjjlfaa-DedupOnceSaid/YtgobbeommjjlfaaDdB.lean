/- Walks: the reference's Add and Same. -/
import Derived.Test.YtgobbeommjjlfaaDdA
namespace Go.Proofs.Ytgobbeommjjlfaa
open Go.RowKit

def stAll (s x : Int) (l : List Rg) : List Rg × Rg × Bool := l.foldl (stA s x) ([], (s, x, x), false)
theorem st_step {s x : Int} {l : List Rg} {k : Nat} {y : Rg} {P : List Rg × Rg × Bool} (hk : k < l.length) (hp : l.getD k rg0 = y) (hP : stAll s x (l.take k) = P) : stAll s x (l.take (k + 1)) = stA s x P y := by
  have e : l[k] = y := by rw [← hp, List.getD_eq_getElem?_getD, List.getElem?_eq_getElem hk]; rfl
  subst hP
  unfold stAll
  rw [List.take_succ_eq_append_getElem hk, List.foldl_append, e]; rfl
theorem stA_a {s x : Int} {out : List Rg} {rs rf rt ys yf yt : Int} {d : Bool} (h : ys = s) (h2 : yt + 1 = x) : stA s x (out, (rs, rf, rt), d) (ys, yf, yt) = (out, (rs, yf, rt), d) := by unfold stA; rw [if_pos ⟨h, h2⟩]
theorem stA_b {s x : Int} {out : List Rg} {rs rf rt ys yf yt : Int} {d : Bool} (h : ys = s) (h1 : ¬ yt + 1 = x) (h2 : yf - 1 = x) : stA s x (out, (rs, rf, rt), d) (ys, yf, yt) = (out, (rs, rf, yt), d) := by unfold stA; rw [if_neg (fun h => h1 h.2), if_pos ⟨h, h2⟩]
theorem stA_c {s x : Int} {out : List Rg} {r y : Rg} {d : Bool} (h1 : ¬ (y.1 = s ∧ y.2.2 + 1 = x)) (h2 : ¬ (y.1 = s ∧ y.2.1 - 1 = x)) (h3 : (d || bef s x y) = true) : stA s x (out, r, d) y = (out ++ [y], r, d) := by unfold stA; rw [if_neg h1, if_neg h2, if_pos h3]
theorem stA_d {s x : Int} {out : List Rg} {r y : Rg} (h1 : ¬ (y.1 = s ∧ y.2.2 + 1 = x)) (h2 : ¬ (y.1 = s ∧ y.2.1 - 1 = x)) (h3 : bef s x y = false) : stA s x (out, r, false) y = (out ++ [r, y], r, true) := by unfold stA; rw [if_neg h1, if_neg h2, if_neg (by rw [h3]; simp)]
theorem Blk.src2 {w : World} {g : Nat} {t : TypeId} {r q : Rg} (h : Blk w g t #[.int .i64 r.1, .int .i64 r.2.1, .int .i64 r.2.2, .int .i64 q.1, .int .i64 q.2.1, .int .i64 q.2.2]) : ∀ j v, (rcl [r, q])[j]? = some v → w.cell? ((⟨g, 0, none⟩ : Addr).add j) = some v := fun j v hj => by
  rw [add_none, Nat.zero_add, h.cell j, ← hj]
  show (#[Value.int .i64 r.1, .int .i64 r.2.1, .int .i64 r.2.2, .int .i64 q.1, .int .i64 q.2.1, .int .i64 q.2.2] : Array Value)[j]? = [Value.int .i64 r.1, .int .i64 r.2.1, .int .i64 r.2.2, .int .i64 q.1, .int .i64 q.2.1, .int .i64 q.2.2][j]?
  simp
theorem own_far3 {w : World} {base e size n : Nat} {v : Value} {xs : List Value} (h : w.ownsRow base e size v n xs) {p : Addr} (hp : p.block < base) (u : Value) : (w.setCell p u).ownsRow base e size v n xs := ownsRow_setCell_below h hp u
set_option maxRecDepth 100000 in
set_option maxHeartbeats 8000000 in
theorem refAdd_yes (A : Option Addr) (n c : Nat) (l : List Rg) (s x : Int) (w : World) (hl : Can l) (hA : RgR w A l) (hn : l.length = n) (h6 : n ≤ 1000000) (hc : n ≤ c) (hm : c ≤ maxLen) (hr : rfs l s x = 0) :
    Calls Try.prog 19 #[.slice A n c, .int .i64 s, .int .i64 x] w (AddYes (adL s x l) w) := by
  obtain ⟨i0, hi0, hz0, hz1, hz2⟩ := info_parts rangeInfo
  obtain ⟨r1, r2⟩ := rfs_zero.1 hr
  have HHS := Lib.hid (refHas_any A n c l s x w hl hA hn hc hm)
  rw [r2] at HHS
  have HID := Lib.hid (refIdent_is r1)
  obtain ⟨i1, i2, i3, i4⟩ := idB_iff.1 r1
  have HFIN : Hid (finA (stAll s x l) = adL s x l) := Lib.hid (by have := fold_adL (out := []) hl r2; simpa [stAll] using this)
  have HA := Lib.hid hA; have HN := Lib.hid hn; have HCG := Lib.hid (fun k s f t (h : k < l.length) (e : l.getD k rg0 = (s, f, t)) => can_get hl h e)
  unfold maxLen at hm
  clear hA hn hl hr r1 r2
  go_enter Try.func19, Try.ntmps19
  go_wp2_with (first
    | (go_at_call 29; (with_reducible refine (HID.out _).mono ?_); rintro e w1 ⟨rfl, rfl⟩)
    | (go_at_call 15; (with_reducible refine HHS.out.mono ?_); rintro e w1 ⟨rfl, rfl⟩))
  go_loopw [8, 10, 11] (fun v dv iv wr => ∃ (k : Nat) (out : List Rg) (rs rf rt : Int) (d : Bool), iv = .int .i64 k ∧ dv = .bool d ∧ k ≤ n ∧ out.length ≤ 2 * k ∧ Hid (stAll s x (l.take k) = (out, (rs, rf, rt), d)) ∧ wr.ownsRow (w.heap.size + 1) 44 3 v out.length (rcl out) ∧ Below w.heap.size w wr ∧ Blk wr w.heap.size 44 #[.int .i64 rs, .int .i64 rf, .int .i64 rt]) (fun _ _ iv _ => n - (intOf iv).toNat)
  case atStart => exact ⟨0, [], s, x, x, false, rfl, rfl, by omega, by simp, Lib.hid rfl, World.ownsRow_nil _ _ _ _, (Below.refl _ _).alloc (Nat.le_refl _) _, Blk.new _ _ _⟩
  case round =>
    obtain ⟨k, out, rs, rf, rt, d, rfl, rfl, hk, hol, HST, hown, hb, hBJ⟩ := hrel
    have hs := hb.size
    have hJ := hBJ.lt
    by_cases hlt : k < n
    · have hkl : k < l.length := by rw [HN.out]; exact hlt
      obtain ⟨bk, off, rfl, hbl, g0, g1, g2⟩ := HA.out k hkl
      have e0 := (hb.cell (p := ⟨bk, off + k * 3, none⟩) hbl).trans g0
      have e1 := (hb.cell (p := ⟨bk, off + k * 3 + 1, none⟩) hbl).trans g1
      have e2 := (hb.cell (p := ⟨bk, off + k * 3 + 2, none⟩) hbl).trans g2
      have hlt' : (k : Int) < (n : Int) := by omega
      obtain ⟨⟨ys, yf, yt⟩, hp⟩ : ∃ z, l.getD k rg0 = z := ⟨_, rfl⟩
      rw [hp] at e0 e1 e2
      simp only at e0 e1 e2
      obtain ⟨j1, j2, j3, j4, j5⟩ := HCG.out k _ _ _ hkl hp
      have HSS := Lib.hid (st_step hkl hp HST.out)
      have hbY : Below w.heap.size w (wr.alloc (.cells #[.int .i64 ys, .int .i64 yf, .int .i64 yt] 44)) := hb.alloc hs _
      have HBY := Lib.hid hbY
      have HBJ := Lib.hid (hBJ.alloc (.cells #[.int .i64 ys, .int .i64 yf, .int .i64 yt] 44))
      obtain ⟨y0, y1, y2⟩ := (Blk.new wr 44 #[.int .i64 ys, .int .i64 yf, .int .i64 yt]).three
      obtain ⟨c0, c1, c2⟩ := HBJ.out.three
      have hfz := HBJ.out.frozen
      have hf1 := hfz 1
      have hf2 := hfz 2
      have HOWN := Lib.hid (hown.alloc (.cells #[.int .i64 ys, .int .i64 yf, .int .i64 yt] 44))
      have HOL := Lib.hid hol
      have HJ := Lib.hid hJ
      have HSZ : Hid (w.heap.size ≤ (wr.alloc (.cells #[.int .i64 ys, .int .i64 yf, .int .i64 yt] 44)).heap.size) := Lib.hid hbY.size
      have HOWN0 := Lib.hid hown; have HB0 := Lib.hid hb; have HBJ0 := Lib.hid hBJ
      clear g0 g1 g2 hp hkl hfz hown hBJ hbY hb
      have HSRC : Hid (∀ j v, (rcl [(ys, yf, yt)])[j]? = some v → ((wr.alloc (.cells #[.int .i64 ys, .int .i64 yf, .int .i64 yt] 44)).alloc (.cells #[.int .i64 ys, .int .i64 yf, .int .i64 yt] 44)).cell? ((⟨wr.heap.size + 1, 0, none⟩ : Addr).add j) = some v) := Lib.hid (by
        have h := Blk.src (r := (ys, yf, yt)) (Blk.new (wr.alloc (.cells #[.int .i64 ys, .int .i64 yf, .int .i64 yt] 44)) 44 #[.int .i64 ys, .int .i64 yf, .int .i64 yt])
        rw [World.size_alloc] at h; exact h)
      have HSRC2 : Hid (∀ j v, (rcl [(rs, rf, rt), (ys, yf, yt)])[j]? = some v → ((wr.alloc (.cells #[.int .i64 ys, .int .i64 yf, .int .i64 yt] 44)).alloc (.cells #[.int .i64 rs, .int .i64 rf, .int .i64 rt, .int .i64 ys, .int .i64 yf, .int .i64 yt] 44)).cell? ((⟨wr.heap.size + 1, 0, none⟩ : Addr).add j) = some v) := Lib.hid (by
        have h := Blk.src2 (r := (rs, rf, rt)) (q := (ys, yf, yt)) (Blk.new (wr.alloc (.cells #[.int .i64 ys, .int .i64 yf, .int .i64 yt] 44)) 44 #[.int .i64 rs, .int .i64 rf, .int .i64 rt, .int .i64 ys, .int .i64 yf, .int .i64 yt])
        rw [World.size_alloc] at h; exact h)
      by_cases x1 : ys = s
      · have d1 : (ys == s) = true := by simp [x1]
        by_cases xa : yt + 1 = x
        · have da : (yt + 1 == x) = true := by simp [xa]
          have HX := Lib.hid x1; have HXA := Lib.hid xa
          clear x1 xa
          have HS2 := Lib.hid (HSS.out.trans (stA_a HX.out HXA.out))
          go_wp2_with fail
          go_roundw
          case rel => exact ⟨k + 1, out, rs, yf, rt, d, by go_num, rfl, by omega, by have := HOL.out; omega, HS2, (own_far3 HOWN0.out (p := ⟨w.heap.size, 1, none⟩) (Nat.lt_succ_self _) _).alloc _, (HB0.out.setCell (p := ⟨w.heap.size, 1, none⟩) (Nat.le_refl _) _).alloc (by simpa [World.setCell] using HB0.out.size) _, (HBJ0.out.set_ 1 _).alloc _⟩
          case measure => simp [intOf]; omega
        · have da : (yt + 1 == x) = false := by simp [xa]
          by_cases xb : yf - 1 = x
          · have db : (yf - 1 == x) = true := by simp [xb]
            have HX := Lib.hid x1; have HXA := Lib.hid xa; have HXB := Lib.hid xb
            clear x1 xa xb
            have HS2 := Lib.hid (HSS.out.trans (stA_b HX.out HXA.out HXB.out))
            go_wp2_with fail
            go_roundw
            case rel => exact ⟨k + 1, out, rs, rf, yt, d, by go_num, rfl, by omega, by have := HOL.out; omega, HS2, (own_far3 HOWN0.out (p := ⟨w.heap.size, 2, none⟩) (Nat.lt_succ_self _) _).alloc _, (HB0.out.setCell (p := ⟨w.heap.size, 2, none⟩) (Nat.le_refl _) _).alloc (by simpa [World.setCell] using HB0.out.size) _, (HBJ0.out.set_ 2 _).alloc _⟩
            case measure => simp [intOf]; omega
          · have db : (yf - 1 == x) = false := by simp [xb]
            have HX := Lib.hid x1; have HXA := Lib.hid xa; have HXB := Lib.hid xb
            have dl : decide (ys < s) = false := decide_eq_false (by omega)
            clear x1 xa xb
            cases d
            · by_cases xt : yt < x
              · have dt : decide (yt < x) = true := decide_eq_true xt
                have HS2 := Lib.hid (HSS.out.trans (stA_c (y := (ys, yf, yt)) (fun h => HXA.out h.2) (fun h => HXB.out h.2) (by rw [bef_iff.2 (.inr ⟨HX.out, xt⟩)]; rfl)))
                go_wp2_with (at_builtin; refine wpList_append_own _ rfl (.tmp 92) (.tmp 94) 22 rfl (w.heap.size + 1) 44 i0 _ 3 24 Try.underlying22 hi0 hz0 hz1 hz2 rfl (by decide) _ _ (rcl out) rfl (World.ownsRow.alloc HOWN.out _) ⟨wr.heap.size + 1, 0, none⟩ 1 1 (rcl [(ys, yf, yt)]) rfl rfl (HSRC.out) (rcl_one _) (by have := HOL.out; unfold maxLen; omega) (by have := HOL.out; omega) (by have h := HJ.out; simp; omega) ?_; intro v4 w4 g1 g2 _)
                go_roundw
                case rel => exact ⟨k + 1, out ++ [(ys, yf, yt)], rs, rf, rt, false, by go_num, rfl, by omega, by have := HOL.out; simp; omega, HS2, by rw [rcl_app]; simpa using g1, (HBY.out.alloc HSZ.out _).grown g2 (by have h := HJ.out; simp; omega) (fun q hq => by have := (World.ownsRow.lt HOWN.out q hq).1; omega), (HBJ.out.alloc _).grown g2 (fun e => by have := (World.ownsRow.lt HOWN.out _ e.symm).1; omega)⟩
                case measure => simp [intOf]; omega
              · have dt : decide (yt < x) = false := decide_eq_false xt
                have HS2 := Lib.hid (HSS.out.trans (stA_d (y := (ys, yf, yt)) (fun h => HXA.out h.2) (fun h => HXB.out h.2) (bef_not.2 (.inr ⟨HX.out, by show x ≤ yt; omega⟩))))
                go_wp2_with (at_builtin; refine wpList_append_own _ rfl (.tmp 37) (.tmp 40) 22 rfl (w.heap.size + 1) 44 i0 _ 3 24 Try.underlying22 hi0 hz0 hz1 hz2 rfl (by decide) _ _ (rcl out) rfl (World.ownsRow.alloc HOWN.out _) ⟨wr.heap.size + 1, 0, none⟩ 2 2 (rcl [(rs, rf, rt), (ys, yf, yt)]) rfl rfl (HSRC2.out) (rcl_one _) (by have := HOL.out; unfold maxLen; omega) (by have := HOL.out; omega) (by have h := HJ.out; simp; omega) ?_; intro v4 w4 g1 g2 _)
                go_roundw
                case rel => exact ⟨k + 1, out ++ [(rs, rf, rt), (ys, yf, yt)], rs, rf, rt, true, by go_num, rfl, by omega, by have := HOL.out; simp; omega, HS2, by rw [rcl_app]; simpa using g1, (HBY.out.alloc HSZ.out _).grown g2 (by have h := HJ.out; simp; omega) (fun q hq => by have := (World.ownsRow.lt HOWN.out q hq).1; omega), (HBJ.out.alloc _).grown g2 (fun e => by have := (World.ownsRow.lt HOWN.out _ e.symm).1; omega)⟩
                case measure => simp [intOf]; omega
            · skip
              have HS2 := Lib.hid (HSS.out.trans (stA_c (y := (ys, yf, yt)) (fun h => HXA.out h.2) (fun h => HXB.out h.2) rfl))
              go_wp2_with (at_builtin; refine wpList_append_own _ rfl (.tmp 92) (.tmp 94) 22 rfl (w.heap.size + 1) 44 i0 _ 3 24 Try.underlying22 hi0 hz0 hz1 hz2 rfl (by decide) _ _ (rcl out) rfl (World.ownsRow.alloc HOWN.out _) ⟨wr.heap.size + 1, 0, none⟩ 1 1 (rcl [(ys, yf, yt)]) rfl rfl (HSRC.out) (rcl_one _) (by have := HOL.out; unfold maxLen; omega) (by have := HOL.out; omega) (by have h := HJ.out; simp; omega) ?_; intro v4 w4 g1 g2 _)
              go_roundw
              case rel => exact ⟨k + 1, out ++ [(ys, yf, yt)], rs, rf, rt, true, by go_num, rfl, by omega, by have := HOL.out; simp; omega, HS2, by rw [rcl_app]; simpa using g1, (HBY.out.alloc HSZ.out _).grown g2 (by have h := HJ.out; simp; omega) (fun q hq => by have := (World.ownsRow.lt HOWN.out q hq).1; omega), (HBJ.out.alloc _).grown g2 (fun e => by have := (World.ownsRow.lt HOWN.out _ e.symm).1; omega)⟩
              case measure => simp [intOf]; omega
      · have d1 : (ys == s) = false := by simp [x1]
        have HX := Lib.hid x1
        cases d
        · by_cases xl : ys < s
          · have dl : decide (ys < s) = true := decide_eq_true xl
            clear x1
            have HS2 := Lib.hid (HSS.out.trans (stA_c (y := (ys, yf, yt)) (fun h => HX.out h.1) (fun h => HX.out h.1) (by rw [bef_iff.2 (.inl xl)]; rfl)))
            go_wp2_with (at_builtin; refine wpList_append_own _ rfl (.tmp 92) (.tmp 94) 22 rfl (w.heap.size + 1) 44 i0 _ 3 24 Try.underlying22 hi0 hz0 hz1 hz2 rfl (by decide) _ _ (rcl out) rfl (World.ownsRow.alloc HOWN.out _) ⟨wr.heap.size + 1, 0, none⟩ 1 1 (rcl [(ys, yf, yt)]) rfl rfl (HSRC.out) (rcl_one _) (by have := HOL.out; unfold maxLen; omega) (by have := HOL.out; omega) (by have h := HJ.out; simp; omega) ?_; intro v4 w4 g1 g2 _)
            go_roundw
            case rel => exact ⟨k + 1, out ++ [(ys, yf, yt)], rs, rf, rt, false, by go_num, rfl, by omega, by have := HOL.out; simp; omega, HS2, by rw [rcl_app]; simpa using g1, (HBY.out.alloc HSZ.out _).grown g2 (by have h := HJ.out; simp; omega) (fun q hq => by have := (World.ownsRow.lt HOWN.out q hq).1; omega), (HBJ.out.alloc _).grown g2 (fun e => by have := (World.ownsRow.lt HOWN.out _ e.symm).1; omega)⟩
            case measure => simp [intOf]; omega
          · have dl : decide (ys < s) = false := decide_eq_false xl
            have HSL : Hid (s < ys) := Lib.hid (by omega)
            clear x1
            have HS2 := Lib.hid (HSS.out.trans (stA_d (y := (ys, yf, yt)) (fun h => HX.out h.1) (fun h => HX.out h.1) (bef_not.2 (.inl HSL.out))))
            go_wp2_with (at_builtin; refine wpList_append_own _ rfl (.tmp 37) (.tmp 40) 22 rfl (w.heap.size + 1) 44 i0 _ 3 24 Try.underlying22 hi0 hz0 hz1 hz2 rfl (by decide) _ _ (rcl out) rfl (World.ownsRow.alloc HOWN.out _) ⟨wr.heap.size + 1, 0, none⟩ 2 2 (rcl [(rs, rf, rt), (ys, yf, yt)]) rfl rfl (HSRC2.out) (rcl_one _) (by have := HOL.out; unfold maxLen; omega) (by have := HOL.out; omega) (by have h := HJ.out; simp; omega) ?_; intro v4 w4 g1 g2 _)
            go_roundw
            case rel => exact ⟨k + 1, out ++ [(rs, rf, rt), (ys, yf, yt)], rs, rf, rt, true, by go_num, rfl, by omega, by have := HOL.out; simp; omega, HS2, by rw [rcl_app]; simpa using g1, (HBY.out.alloc HSZ.out _).grown g2 (by have h := HJ.out; simp; omega) (fun q hq => by have := (World.ownsRow.lt HOWN.out q hq).1; omega), (HBJ.out.alloc _).grown g2 (fun e => by have := (World.ownsRow.lt HOWN.out _ e.symm).1; omega)⟩
            case measure => simp [intOf]; omega
        · clear x1
          have HS2 := Lib.hid (HSS.out.trans (stA_c (y := (ys, yf, yt)) (fun h => HX.out h.1) (fun h => HX.out h.1) rfl))
          go_wp2_with (at_builtin; refine wpList_append_own _ rfl (.tmp 92) (.tmp 94) 22 rfl (w.heap.size + 1) 44 i0 _ 3 24 Try.underlying22 hi0 hz0 hz1 hz2 rfl (by decide) _ _ (rcl out) rfl (World.ownsRow.alloc HOWN.out _) ⟨wr.heap.size + 1, 0, none⟩ 1 1 (rcl [(ys, yf, yt)]) rfl rfl (HSRC.out) (rcl_one _) (by have := HOL.out; unfold maxLen; omega) (by have := HOL.out; omega) (by have h := HJ.out; simp; omega) ?_; intro v4 w4 g1 g2 _)
          go_roundw
          case rel => exact ⟨k + 1, out ++ [(ys, yf, yt)], rs, rf, rt, true, by go_num, rfl, by omega, by have := HOL.out; simp; omega, HS2, by rw [rcl_app]; simpa using g1, (HBY.out.alloc HSZ.out _).grown g2 (by have h := HJ.out; simp; omega) (fun q hq => by have := (World.ownsRow.lt HOWN.out q hq).1; omega), (HBJ.out.alloc _).grown g2 (fun e => by have := (World.ownsRow.lt HOWN.out _ e.symm).1; omega)⟩
          case measure => simp [intOf]; omega
    · obtain rfl : k = n := by omega
      have HT : Hid (finA (out, (rs, rf, rt), d) = adL s x l) := Lib.hid (by
        have h := HST.out
        rw [← HN.out, List.take_length] at h
        rw [← h]; exact HFIN.out)
      obtain ⟨c0, c1, c2⟩ := hBJ.three
      cases d
      · have HT2 : Hid (out ++ [(rs, rf, rt)] = adL s x l) := Lib.hid (by rw [← HT.out]; rfl)
        have HLN : Hid (out.length + 1 = (adL s x l).length) := Lib.hid (by rw [← HT2.out]; simp)
        have HSRC := Lib.hid (Blk.src (r := (rs, rf, rt)) (Blk.new wr 44 #[.int .i64 rs, .int .i64 rf, .int .i64 rt]))
        have HOWN := Lib.hid (hown.alloc (.cells #[.int .i64 rs, .int .i64 rf, .int .i64 rt] 44))
        go_wp2_with (at_builtin; refine wpList_append_own _ rfl (.tmp 98) (.tmp 100) 22 rfl (w.heap.size + 1) 44 i0 _ 3 24 Try.underlying22 hi0 hz0 hz1 hz2 rfl (by decide) _ _ (rcl out) rfl HOWN.out ⟨wr.heap.size, 0, none⟩ 1 1 (rcl [(rs, rf, rt)]) rfl rfl (HSRC.out) (rcl_one _) (by unfold maxLen; omega) (by omega) (by simp; omega) ?_; intro v4 w4 g1 g2 _)
        go_ret2
        refine ⟨v4, rfl, ?_, (hb.alloc hs _).grown g2 (by simp; omega) (fun q hq => by have := (World.ownsRow.lt HOWN.out q hq).1; omega)⟩
        rw [← HLN.out, ← HT2.out, rcl_app]
        exact own_mono g1 (Nat.le_succ _)
      · have HT2 : Hid (out = adL s x l) := Lib.hid (by rw [← HT.out]; rfl)
        go_wp2_with fail
        go_ret2
        refine ⟨_, rfl, ?_, hb⟩
        rw [← HT2.out]
        exact own_mono hown (Nat.le_succ _)
end Go.Proofs.Ytgobbeommjjlfaa
