/- Walk: product.Fees. -/
import Derived.Test.YthjckkcafhiomaaPdCp
import Derived.Test.YthjckkcafhiomaaPdFF
import Derived.Deep.Cut
namespace Go.Proofs.Ythjckkcafhiomaa.Pd
open Go.RowKit

/-- An amount during a period. -/
abbrev Fd := Int × Int × Int
def fd0 : Fd := (0, 0, 0)
def fdl (l : List Fd) : List Value := l.flatMap fun p => [.int .i64 p.1, .int .i64 p.2.1, .int .i64 p.2.2]
theorem fdl_len (l : List Fd) : (fdl l).length = l.length * 3 := by
  induction l with
  | nil => rfl
  | cons r l ih => rw [fdl, List.flatMap_cons, List.length_append]; rw [fdl] at ih; rw [ih]; simp; omega
theorem fdl_app (l m : List Fd) : fdl (l ++ m) = fdl l ++ fdl m := List.flatMap_append
theorem fdl_one (l : List Fd) : ∀ v ∈ fdl l, v.oneCell' = true := by
  intro v hv
  obtain ⟨r, _, h⟩ := List.mem_flatMap.1 hv
  simp at h
  rcases h with rfl | rfl | rfl <;> rfl
theorem fd_src {w : World} {g : Nat} {t : TypeId} {x y z : Int} (h : Blk w g t #[.int .i64 x, .int .i64 y, .int .i64 z]) : ∀ j v, (fdl [(x, y, z)])[j]? = some v → w.cell? ((⟨g, 0, none⟩ : Addr).add j) = some v := fun j v hj => by
  rw [add_none, Nat.zero_add, h.cell j, ← hj]
  show (#[Value.int .i64 x, .int .i64 y, .int .i64 z] : Array Value)[j]? = [Value.int .i64 x, .int .i64 y, .int .i64 z][j]?
  simp
/-- The part of the period a to b in which version k of F is valid, with its fee. -/
def loF (F : List Pr) (a : Int) (k : Nat) : Int := max (F.getD k pr0).fr a
def hiF (F : List Pr) (b : Int) (k : Nat) : Int := if k + 1 < F.length then min (F.getD (k + 1) pr0).fr b else b
def stepF (F : List Pr) (a b : Int) (k : Nat) : List Fd := if vl (loF F a k) (hiF F b k) then [(loF F a k, hiF F b k, (F.getD k pr0).fe)] else []
def feesK (F : List Pr) (a b : Int) (k : Nat) : List Fd := (List.range k).flatMap (stepF F a b)
theorem feesK_next (F : List Pr) (a b : Int) (k : Nat) : feesK F a b (k + 1) = feesK F a b k ++ stepF F a b k := by
  unfold feesK; rw [List.range_succ, List.flatMap_append]; simp
theorem feesK_len (F : List Pr) (a b : Int) (k : Nat) : (feesK F a b k).length ≤ k := by
  induction k with
  | zero => simp [feesK]
  | succ k ih =>
    rw [feesK_next, List.length_append]
    have : (stepF F a b k).length ≤ 1 := by unfold stepF; split <;> simp
    omega
def feesP (l : List Pr) (nm : ByteArray) (a b : Int) : List Fd := if vl a b then feesK (l.filter (qF nm)) a b (l.filter (qF nm)).length else []
def FdOut (L : List Fd) (w : World) (e : Ending) (w' : World) : Prop :=
  ∃ v', e = .returned v' ∧ w'.ownsRow w.heap.size 44 3 v' L.length (fdl L) ∧ Below w.heap.size w w'
set_option maxRecDepth 100000 in
set_option maxHeartbeats 8000000 in
theorem fees_any (A : Option Addr) (n c : Nat) (l : List Pr) (nm : ByteArray) (a b : Int) (w : World) (hA : PrR w A l) (hn : l.length = n) (h6 : n ≤ 1000000) :
    Calls Try.prog 20 #[.slice A n c, .string nm, .agg #[.int .i64 a, .int .i64 b]] w (FdOut (feesP l nm a b) w) := by
  obtain ⟨b0, hb0⟩ : ∃ b, w.heap.size = b := ⟨_, rfl⟩
  obtain ⟨L, hL⟩ : ∃ L, (w.alloc (.cells #[.string nm] 9)).alloc (.cells #[.int .i64 a, .int .i64 b] 38) = L := ⟨_, rfl⟩
  have hBL : Below w.heap.size w L := hL ▸ (below_one w _).alloc (by simp) _
  have h1 : Blk L b0 9 #[.string nm] := hL ▸ hb0 ▸ (Blk.new w _ _).alloc _
  have h2 : Blk L (b0 + 1) 38 #[.int .i64 a, .int .i64 b] := by
    have h := Blk.new (w.alloc (.cells #[.string nm] 9)) 38 #[.int .i64 a, .int .i64 b]
    rw [World.size_alloc, hb0, hL] at h
    exact h
  have HF := Lib.hid (fun (W : World) (hb : Below L.heap.size L W) => filterF A n c l nm b0 W (h1.below hb h1.lt) ((hA.below hBL).below hb) hn h6)
  have HBL := Lib.hid hBL; have H2 := Lib.hid h2
  have HOK := Lib.hid (show ∀ p ∈ l.filter (qF nm), PrOk L p from fun p hp => (hA.ok p (List.mem_filter.1 hp).1).below hBL)
  have hle : (l.filter (qF nm)).length ≤ 1000000 := Nat.le_trans (List.length_filter_le _ _) (by omega)
  unfold feesP
  obtain ⟨F, hF⟩ : ∃ F, l.filter (qF nm) = F := ⟨_, rfl⟩
  rw [hF] at HF HOK hle ⊢
  obtain ⟨N, hN⟩ : ∃ N, F.length = N := ⟨_, rfl⟩
  rw [hN] at hle
  have HN := Lib.hid hN
  obtain ⟨i0, hi0, hz0, hz1, hz2⟩ := info_parts pdInfo
  obtain ⟨d0, d1⟩ := h2.two
  clear hA hn hBL h1 h2 hF hN
  obtain ⟨v, hv⟩ : ∃ v, vl a b = v := ⟨_, rfl⟩
  have HV := Lib.hid (valid_is a b v hv)
  rw [hv]
  have HVV := Lib.hid hv
  clear hv
  cases v
  · go_enter Try.func20, Try.ntmps20
    go_wp2_with (go_at_call 31; (with_reducible refine (HV.out _).mono ?_); rintro e w1 ⟨rfl, hb1⟩; have HB1 := Lib.hid (HBL.out.trans (hb1.mono HBL.out.size)); clear hb1)
    go_ret
    exact ⟨_, rfl, World.ownsRow_nil _ _ _ _, HB1.out⟩
  · go_enter Try.func20, Try.ntmps20
    go_wp2_with (first
      | (go_at_call 31; (with_reducible refine (HV.out _).mono ?_); rintro e w0 ⟨rfl, hb1⟩; have HB0 := Lib.hid hb1; clear hb1)
      | (go_at_call 26; (with_reducible refine (HF.out _ HB0.out).mono ?_); rintro e w1 ⟨v1, rfl, ho1, hb1⟩; have hb2 := HB0.out.trans (hb1.mono HB0.out.size); obtain ⟨A1, m1, hv1, x1, x2, hrd, -⟩ := pr_own ho1 rfl (fun p hp => (HOK.out p hp).below hb2); rw [HN.out] at hv1; subst hv1; have HRD := Lib.hid hrd; have HB1 := Lib.hid (HBL.out.trans (hb2.mono HBL.out.size)); have H21 := Lib.hid (H2.out.below hb2 H2.out.lt); clear ho1 hb1 hb2 hrd x1 x2))
    clear hL hb0 d0 d1
    go_loopw [7, 20] (fun v iv wr => ∃ (k : Nat) (u : Value), u = v ∧ iv = .int .i64 k ∧ k ≤ N ∧ Hid (Below w1.heap.size w1 wr) ∧ Hid (wr.ownsRow w1.heap.size 44 3 u (feesK F a b k).length (fdl (feesK F a b k)))) (fun _ iv _ => N - (intOf iv).toNat)
    case atStart => exact ⟨0, _, rfl, rfl, by omega, Lib.hid (Below.refl _ _), Lib.hid (World.ownsRow_nil _ _ _ _)⟩
    case round =>
      obtain ⟨k, v, rfl, rfl, hk, HB, HO⟩ := hrel
      by_cases hlt : k < N
      · have hkl : k < F.length := by rw [HN.out]; exact hlt
        have hlt' : (k : Int) < (N : Int) := by omega
        have hH2 := H21.out.below HB.out H21.out.lt
        have HX := Lib.hid (feesK_next F a b k)
        have HKL := Lib.hid (feesK_len F a b k)
        obtain ⟨bk, off, rfl, hbl, hcs, -⟩ := HRD.out k hkl
        have hcs := hcs.below HB.out hbl
        have hlo : loF F a k = max (F.getD k pr0).fr a := rfl
        have hstep : stepF F a b k = if vl (loF F a k) (hiF F b k) then [(loF F a k, hiF F b k, (F.getD k pr0).fe)] else [] := rfl
        obtain ⟨p, hp⟩ : ∃ p, F.getD k pr0 = p := ⟨_, rfl⟩
        rw [hp] at hcs hlo hstep
        obtain ⟨pn, fr, fe, ca, pr, pA, pN, pC, bs⟩ := p
        unfold Pr.cells at hcs
        simp only at hcs hlo hstep
        obtain ⟨e0, e1, e2, e3, e4, e5⟩ := hcs.all
        rw [hlo] at hstep
        clear hlo
        obtain ⟨R, hR⟩ : ∃ R, wr.alloc (.cells #[.string pn, .int .i64 fr, .int .i64 fe, .string ca, .bool pr, .slice pA pN pC] 29) = R := ⟨_, rfl⟩
        obtain ⟨g, hg⟩ : ∃ g, wr.heap.size = g := ⟨_, rfl⟩
        have hQ : Blk R g 29 #[.string pn, .int .i64 fr, .int .i64 fe, .string ca, .bool pr, .slice pA pN pC] := hR ▸ hg ▸ Blk.new wr _ _
        have hbR : Below wr.heap.size wr R := hR ▸ below_one wr _
        have h2R := hH2.below hbR hH2.lt
        obtain ⟨d0, d1⟩ := h2R.two
        obtain ⟨c0, c1, c2, c3, c4, c5⟩ := hQ.six
        clear hcs hkl hbl
        obtain ⟨T, hT⟩ : ∃ T, R.alloc (.cells #[.int .i64 (max fr a), .int .i64 b] 38) = T := ⟨_, rfl⟩
        obtain ⟨h, hh⟩ : ∃ h, R.heap.size = h := ⟨_, rfl⟩
        have hbT : Below R.heap.size R T := hT ▸ below_one R _
        have hPT : Blk T h 38 #[.int .i64 (max fr a), .int .i64 b] := hT ▸ hh ▸ Blk.new R _ _
        have hQT := hQ.below hbT hQ.lt
        have h2T := h2R.below hbT h2R.lt
        have HBR := Lib.hid (HB.out.trans (hbR.mono HB.out.size)); have HOR := Lib.hid (own_keep HO.out hbR)
        have HBT := Lib.hid (HB.out.trans ((hbR.mono HB.out.size).trans (hbT.mono (Nat.le_trans HB.out.size hbR.size))))
        have HOT := Lib.hid (own_keep (own_keep HO.out hbR) hbT)
        have HPT := Lib.hid hPT; have HQT := Lib.hid hQT
        have hgh : g < h := by rw [← hh]; exact hQ.lt
        clear HB HO
        by_cases hk1 : k + 1 < N
        · have hk1' : (k : Int) + 1 < (N : Int) := by omega
          obtain ⟨bk', off', hA', hbl', hcs', -⟩ := HRD.out (k + 1) (by rw [HN.out]; exact hk1)
          obtain ⟨rfl, rfl⟩ : bk = bk' ∧ off = off' := by injection hA' with h; injection h with h1 h2 h3; exact ⟨h1, h2⟩
          have hcs' := hcs'.below HBT.out hbl'
          have hhi : hiF F b k = min (F.getD (k + 1) pr0).fr b := by unfold hiF; rw [if_pos (by rw [HN.out]; exact hk1)]
          obtain ⟨p', hp'⟩ : ∃ p, F.getD (k + 1) pr0 = p := ⟨_, rfl⟩
          rw [hp'] at hcs' hhi
          obtain ⟨pn', fr', fe', ca', pr', pA', pN', pC', bs'⟩ := p'
          unfold Pr.cells at hcs'
          simp only at hcs' hhi
          have x1 := hcs'.all.2.1
          rw [hhi] at hstep
          have z1 := h2T.two.2
          obtain ⟨y0, y1⟩ := hPT.two
          have f1 := hPT.frozen 1
          have hb1h : b0 + 1 ≠ h := by have := h2R.lt; omega
          have hbkh : bk ≠ h := by have := HBT.out.size; have := hbR.size; have := hbT.size; have := cell_block_lt e1; simp at this; omega
          have hb2h : h ≠ b0 + 1 := Ne.symm hb1h
          have hb3h : h ≠ bk := Ne.symm hbkh
          have hi1 : (0 : Int) ≤ (k : Int) + 1 := by omega
          have hi2 : ((k : Int) + 1).toNat = k + 1 := by omega
          have hi3 : IntKind.i64.wrap ((k : Int) + 1) = (k : Int) + 1 := IntWalk.i64_in _ (by omega)
          clear hcs' hbl' hA' hhi
          go_wp2_with fail
          go_region_held3 (fun w' => w'.cell? ⟨bk, off + (k + 1) * 6 + 1, none⟩ = some (.int .i64 fr') ∧ w'.cell? ⟨b0 + 1, 1, none⟩ = some (.int .i64 b)) (go_keep) (fail)
          obtain ⟨U, hU⟩ : ∃ U, (T.setCell ⟨h, 1, none⟩ (.int .i64 (min fr' b))).drew = U := ⟨_, rfl⟩
          rw [hU]
          have HPU : Hid (Blk U h 38 #[.int .i64 (max fr a), .int .i64 (min fr' b)]) := Lib.hid (hU ▸ (HPT.out.set_ 1 _).drew)
          have HQU : Hid (Blk U g 29 #[.string pn, .int .i64 fr, .int .i64 fe, .string ca, .bool pr, .slice pA pN pC]) := Lib.hid (hU ▸ (HQT.out.far (show g ≠ h by omega) _).drew)
          have hbU : Below R.heap.size R U := hU ▸ (hbT.setCell (by rw [← hh]; exact Nat.le_refl _) _).drew
          have HBU := Lib.hid (HBR.out.trans (hbU.mono HBR.out.size))
          have HOU := Lib.hid (own_keep HOR.out hbU)
          obtain ⟨v2, hv2⟩ : ∃ v, vl (max fr a) (min fr' b) = v := ⟨_, rfl⟩
          have HV2 := Lib.hid (valid_is (max fr a) (min fr' b) v2 hv2)
          rw [hv2] at hstep
          rw [hstep] at HX
          clear y0 y1 c0 c1 c2 c3 c4 c5 d0 d1 z1 x1 f1 hU
          obtain ⟨y0, y1⟩ := HPU.out.two
          obtain ⟨c0, c1, c2, c3, c4, c5⟩ := HQU.out.six
          clear hstep hv2 hQT hPT hbT hbU e0 e1 e2 e3 e4 e5 hT hR hg hh
          cases v2
          · go_wp2_with (go_at_call 31; (with_reducible refine (HV2.out _).mono ?_); rintro e w4 ⟨rfl, hb4⟩; have HB4 := Lib.hid (HBU.out.trans (hb4.mono HBU.out.size)); have HO4 := Lib.hid (own_keep HOU.out hb4); clear hb4)
            go_roundw
            case rel => exact ⟨k + 1, _, rfl, by go_num, by omega, HB4, Lib.hid (by rw [HX.out]; simpa using HO4.out)⟩
            case measure => simp [intOf]; omega
          · go_wp2_with (first
              | (go_at_call 31; (with_reducible refine (HV2.out _).mono ?_); rintro e w4 ⟨rfl, hb4⟩; have HB4 := Lib.hid (HBU.out.trans (hb4.mono HBU.out.size)); have HO4 := Lib.hid (own_keep HOU.out hb4); clear y0 y1 c0 c1 c2 c3 c4 c5; obtain ⟨y0, y1⟩ := (HPU.out.below hb4 HPU.out.lt).two; obtain ⟨c0, c1, c2, c3, c4, c5⟩ := (HQU.out.below hb4 HQU.out.lt).six; clear hb4)
              | (at_builtin; refine wpList_append_own_at _ rfl (.tmp 50) (.tmp 55) 40 rfl w1.heap.size 44 i0 _ 3 24 Try.underlying40 hi0 hz0 hz1 hz2 rfl (by decide) _ _ (fdl (feesK F a b k)) rfl (HO4.out.alloc _) ⟨w4.heap.size, 0, none⟩ 1 1 (fdl [(max fr a, min fr' b, fe)]) rfl rfl (fd_src (Blk.new w4 44 _)) (fdl_one _) (by have := HKL.out; unfold maxLen; omega) (by have := HKL.out; omega) (by have := HB4.out.size; simp; omega) ?_; intro v5 w5 g1 g2 _ g3; have HO5 := Lib.hid g1; have HB5 := Lib.hid (below_grown (HB4.out.alloc HB4.out.size _) g2 (fun j hj => (World.ownsRow.lt HO4.out j hj).1) (by have := HB4.out.size; simp; omega)); clear g1 g2 g3))
            go_roundw
            case rel => exact ⟨k + 1, _, rfl, by go_num, by omega, HB5, Lib.hid (by rw [HX.out, if_pos trivial, List.length_append, fdl_app]; exact HO5.out)⟩
            case measure => simp [intOf]; omega
        · have hk1' : ¬ ((k : Int) + 1 < (N : Int)) := by omega
          have hk2 : decide ((k : Int) + 1 < (N : Int)) = false := decide_eq_false hk1'
          have hhi : hiF F b k = b := by unfold hiF; rw [if_neg (by rw [HN.out]; exact hk1)]
          rw [hhi] at hstep
          obtain ⟨v2, hv2⟩ : ∃ v, vl (max fr a) b = v := ⟨_, rfl⟩
          have HV2 := Lib.hid (valid_is (max fr a) b v2 hv2)
          rw [hv2] at hstep
          rw [hstep] at HX
          obtain ⟨y0, y1⟩ := hPT.two
          obtain ⟨c0, c1, c2, c3, c4, c5⟩ := hQT.six
          clear hstep hhi hv2 hQT hPT hbT
          cases v2
          · go_wp2_with (go_at_call 31; (with_reducible refine (HV2.out _).mono ?_); rintro e w4 ⟨rfl, hb4⟩; have HB4 := Lib.hid (HBT.out.trans (hb4.mono HBT.out.size)); have HO4 := Lib.hid (own_keep HOT.out hb4); clear hb4)
            go_roundw
            case rel => exact ⟨k + 1, _, rfl, by go_num, by omega, HB4, Lib.hid (by rw [HX.out]; simpa using HO4.out)⟩
            case measure => simp [intOf]; omega
          · go_wp2_with (first
              | (go_at_call 31; (with_reducible refine (HV2.out _).mono ?_); rintro e w4 ⟨rfl, hb4⟩; have HB4 := Lib.hid (HBT.out.trans (hb4.mono HBT.out.size)); have HO4 := Lib.hid (own_keep HOT.out hb4); clear y0 y1 c0 c1 c2 c3 c4 c5; obtain ⟨y0, y1⟩ := (HPT.out.below hb4 HPT.out.lt).two; obtain ⟨c0, c1, c2, c3, c4, c5⟩ := (HQT.out.below hb4 HQT.out.lt).six; clear hb4)
              | (at_builtin; refine wpList_append_own_at _ rfl (.tmp 50) (.tmp 55) 40 rfl w1.heap.size 44 i0 _ 3 24 Try.underlying40 hi0 hz0 hz1 hz2 rfl (by decide) _ _ (fdl (feesK F a b k)) rfl (HO4.out.alloc _) ⟨w4.heap.size, 0, none⟩ 1 1 (fdl [(max fr a, b, fe)]) rfl rfl (fd_src (Blk.new w4 44 _)) (fdl_one _) (by have := HKL.out; unfold maxLen; omega) (by have := HKL.out; omega) (by have := HB4.out.size; simp; omega) ?_; intro v5 w5 g1 g2 _ g3; have HO5 := Lib.hid g1; have HB5 := Lib.hid (below_grown (HB4.out.alloc HB4.out.size _) g2 (fun j hj => (World.ownsRow.lt HO4.out j hj).1) (by have := HB4.out.size; simp; omega)); clear g1 g2 g3))
            go_roundw
            case rel => exact ⟨k + 1, _, rfl, by go_num, by omega, HB5, Lib.hid (by rw [HX.out, if_pos trivial, List.length_append, fdl_app]; exact HO5.out)⟩
            case measure => simp [intOf]; omega
      · obtain rfl : k = N := by omega
        go_wp2_with fail
        go_ret
        have h := HO.out
        refine ⟨_, rfl, ?_, HB1.out.trans (HB.out.mono HB1.out.size)⟩
        rw [HN.out]
        exact own_mono h HB1.out.size
end Go.Proofs.Ythjckkcafhiomaa.Pd
