/- Walk of the reference: Fees. -/
import Derived.Test.YthjckkcafhiomaaPdSm
namespace Go.Proofs.Ythjckkcafhiomaa.Pd
open Go.RowKit

def hiR (l : List Pr) (nm : ByteArray) (b : Int) (k : Nat) : Int := if (decide (k + 1 < l.length) && decide ((l.getD (k + 1) pr0).nm = nm)) = true then min b (l.getD (k + 1) pr0).fr else b
def stepR (l : List Pr) (nm : ByteArray) (a b : Int) (k : Nat) : List Fd := if (l.getD k pr0).nm = nm then (if max (l.getD k pr0).fr a < hiR l nm b k then [(max (l.getD k pr0).fr a, hiR l nm b k, (l.getD k pr0).fe)] else []) else []
def feesRK (l : List Pr) (nm : ByteArray) (a b : Int) (k : Nat) : List Fd := (List.range k).flatMap (stepR l nm a b)
theorem feesRK_next (l : List Pr) (nm : ByteArray) (a b : Int) (k : Nat) : feesRK l nm a b (k + 1) = feesRK l nm a b k ++ stepR l nm a b k := by
  unfold feesRK; rw [List.range_succ, List.flatMap_append]; simp
theorem feesRK_len (l : List Pr) (nm : ByteArray) (a b : Int) (k : Nat) : (feesRK l nm a b k).length ≤ k := by
  induction k with
  | zero => simp [feesRK]
  | succ k ih =>
    rw [feesRK_next, List.length_append]
    have : (stepR l nm a b k).length ≤ 1 := by unfold stepR; split <;> (try split) <;> simp
    omega
def feesR (l : List Pr) (nm : ByteArray) (a b : Int) : List Fd := if vl a b then feesRK l nm a b l.length else []
theorem vl_no {a b : Int} (h : a < 0 ∨ (¬ a < 0 ∧ b ≤ a) ∨ (¬ a < 0 ∧ ¬ b ≤ a ∧ 12622780800 < b)) : vl a b = false := by
  unfold vl; simp; omega
theorem vl_yes {a b : Int} (h : 0 ≤ a) (h2 : a < b) (h3 : b ≤ 12622780800) : vl a b = true := by
  unfold vl; simp; omega
set_option maxRecDepth 100000 in
set_option maxHeartbeats 8000000 in
theorem refFees_any (A : Option Addr) (n c : Nat) (l : List Pr) (nm : ByteArray) (a b : Int) (w : World) (hA : PrR w A l) (hn : l.length = n) (h6 : n ≤ 1000000) :
    Calls Try.prog 21 #[.slice A n c, .string nm, .agg #[.int .i64 a, .int .i64 b]] w (FdOut (feesR l nm a b) w) := by
  obtain ⟨b0, hb0⟩ : ∃ b, w.heap.size = b := ⟨_, rfl⟩
  obtain ⟨L, hL⟩ : ∃ L, w.alloc (.cells #[.int .i64 a, .int .i64 b] 38) = L := ⟨_, rfl⟩
  have hBL : Below w.heap.size w L := hL ▸ below_one w _
  have h2 : Blk L b0 38 #[.int .i64 a, .int .i64 b] := hL ▸ hb0 ▸ Blk.new w _ _
  have HBL := Lib.hid hBL; have H2 := Lib.hid h2; have HA := Lib.hid (hA.below hBL); have HN := Lib.hid hn
  obtain ⟨d0, d1⟩ := h2.two
  obtain ⟨i0, hi0, hz0, hz1, hz2⟩ := info_parts pdInfo
  clear hA hn hBL h2
  by_cases hno : a < 0 ∨ (¬ a < 0 ∧ b ≤ a) ∨ (¬ a < 0 ∧ ¬ b ≤ a ∧ 12622780800 < b)
  · have HR : Hid (feesR l nm a b = []) := Lib.hid (by unfold feesR; rw [vl_no hno]; rfl)
    have hw : decide (a < 0) = true ∨ (decide (a < 0) = false ∧ decide (b ≤ a) = true) ∨ (decide (a < 0) = false ∧ decide (b ≤ a) = false ∧ decide (12622780800 < b) = true) := by simp; omega
    rw [HR.out]
    clear hno
    rcases hw with x1 | ⟨x1, x2⟩ | ⟨x1, x2, x3⟩
    all_goals
      go_enter Try.func21, Try.ntmps21
      go_wp2_with fail
      go_ret
      exact ⟨_, rfl, World.ownsRow_nil _ _ _ _, HBL.out⟩
  have hvl : vl a b = true := vl_yes (by omega) (by omega) (by omega)
  have x1 : decide (a < 0) = false := decide_eq_false (by omega)
  have x2 : decide (b ≤ a) = false := decide_eq_false (by omega)
  have x3 : decide (12622780800 < b) = false := decide_eq_false (by omega)
  unfold feesR
  rw [hvl]
  clear hno hvl
  go_enter Try.func21, Try.ntmps21
  go_wp2_with fail
  clear x1 x2 x3 hL hb0 d0 d1
  go_loopw [7, 8] (fun v iv wr => ∃ (k : Nat) (u : Value), u = v ∧ iv = .int .i64 k ∧ k ≤ n ∧ Hid (Below L.heap.size L wr) ∧ Hid (wr.ownsRow L.heap.size 44 3 u (feesRK l nm a b k).length (fdl (feesRK l nm a b k)))) (fun _ iv _ => n - (intOf iv).toNat)
  case atStart => exact ⟨0, _, rfl, rfl, by omega, Lib.hid (Below.refl _ _), Lib.hid (World.ownsRow_nil _ _ _ _)⟩
  case round =>
    obtain ⟨k, v, rfl, rfl, hk, HB, HO⟩ := hrel
    by_cases hlt : k < n
    · have hkl : k < l.length := by rw [HN.out]; exact hlt
      have hlt' : (k : Int) < (n : Int) := by omega
      have hH2 := H2.out.below HB.out H2.out.lt
      obtain ⟨d0, d1⟩ := hH2.two
      have HX := Lib.hid (feesRK_next l nm a b k)
      have HKL := Lib.hid (feesRK_len l nm a b k); have HKK := Lib.hid hkl
      obtain ⟨bk, off, rfl, hbl, hcs, -⟩ := HA.out k hkl
      have hcs := hcs.below HB.out hbl
      have hstep : stepR l nm a b k = if (l.getD k pr0).nm = nm then (if max (l.getD k pr0).fr a < hiR l nm b k then [(max (l.getD k pr0).fr a, hiR l nm b k, (l.getD k pr0).fe)] else []) else [] := rfl
      have hhi : hiR l nm b k = if (decide (k + 1 < l.length) && decide ((l.getD (k + 1) pr0).nm = nm)) = true then min b (l.getD (k + 1) pr0).fr else b := rfl
      obtain ⟨p, hp⟩ : ∃ p, l.getD k pr0 = p := ⟨_, rfl⟩
      rw [hp] at hcs hstep
      have HP := Lib.hid hp
      obtain ⟨pn, fr, fe, ca, pr, pA, pN, pC, bs⟩ := p
      unfold Pr.cells at hcs
      simp only at hcs hstep
      obtain ⟨e0, e1, e2, e3, e4, e5⟩ := hcs.all
      obtain ⟨v1, hv1⟩ : ∃ v, decide (pn = nm) = v := ⟨_, rfl⟩
      have hq1 := sEq_is hv1
      cases v1
      · rw [if_neg (by simpa using hv1)] at hstep
        rw [hstep, List.append_nil] at HX
        have hq2 : (pn.toList != nm.toList) = true := by simp only [bne, hq1, Bool.not_false]
        clear hcs hkl hp hbl hstep hhi hv1 hH2
        go_wp2_with fail
        go_roundw
        case rel => exact ⟨k + 1, _, rfl, by go_num, by omega, HB, Lib.hid (by rw [HX.out]; exact HO.out)⟩
        case measure => simp [intOf]; omega
      · rw [if_pos (by simpa using hv1)] at hstep
        have hq2 : (pn.toList != nm.toList) = false := by simp only [bne, hq1, Bool.not_true]
        clear hcs hkl hp hbl hv1 hH2
        go_wp2_with fail
        go_quiet (fail)
        generalize hWq : World.drewN wr _ = Wq
        have HBQ : Hid (Below L.heap.size L Wq) := Lib.hid (hWq ▸ below_drewN HB.out _)
        have HOQ : Hid (Wq.ownsRow L.heap.size 44 3 v (feesRK l nm a b k).length (fdl (feesRK l nm a b k))) := Lib.hid (hWq ▸ HO.out)
        clear hWq e0 e1 e2 e3 e4 e5 d0 d1
        obtain ⟨_, _, hA1, hbl1, hcs1, -⟩ := HA.out k HKK.out
        obtain ⟨rfl, rfl⟩ : bk = _ ∧ off = _ := by injection hA1 with h; injection h with h1 h2 h3; exact ⟨h1, h2⟩
        have hcs1 := hcs1.below HBQ.out hbl1
        rw [HP.out] at hcs1
        obtain ⟨e0, e1, e2, e3, e4, e5⟩ := (show Six Wq bk (off + k * 6) #[.string pn, .int .i64 fr, .int .i64 fe, .string ca, .bool pr, .slice pA pN pC] from hcs1).all
        clear hA1 hbl1 hcs1
        obtain ⟨lo, hlo⟩ : ∃ lo, max fr a = lo := ⟨_, rfl⟩
        rw [hlo] at hstep ⊢
        clear hlo
        by_cases hk1 : k + 1 < n
        · have hk1' : (k : Int) + 1 < (n : Int) := by omega
          obtain ⟨_, _, hA2, hbl2, hcs2, -⟩ := HA.out (k + 1) (by rw [HN.out]; exact hk1)
          obtain ⟨rfl, rfl⟩ : bk = _ ∧ off = _ := by injection hA2 with h; injection h with h1 h2 h3; exact ⟨h1, h2⟩
          have hcs2 := hcs2.below HBQ.out hbl2
          rw [decide_eq_true (show k + 1 < l.length by rw [HN.out]; exact hk1), Bool.true_and] at hhi
          obtain ⟨p', hp'⟩ : ∃ p', l.getD (k + 1) pr0 = p' := ⟨_, rfl⟩
          rw [hp'] at hcs2 hhi
          obtain ⟨pn', fr', fe', ca', pr', pA', pN', pC', bs'⟩ := p'
          unfold Pr.cells at hcs2
          simp only at hcs2 hhi
          obtain ⟨z0, z1, -, -, -, -⟩ := hcs2.all
          obtain ⟨v2, hv2⟩ : ∃ v, decide (pn' = nm) = v := ⟨_, rfl⟩
          have hq3 := sEq_is hv2
          rw [hv2] at hhi
          have hi1 : (0 : Int) ≤ (k : Int) + 1 := by omega
          have hi2 : ((k : Int) + 1).toNat = k + 1 := by omega
          have hi3 : IntKind.i64.wrap ((k : Int) + 1) = (k : Int) + 1 := IntWalk.i64_in _ (by omega)
          clear hcs2 hbl2 hA2 hp' hv2
          cases v2
          · rw [if_neg (by simp)] at hhi
            rw [hhi] at hstep
            clear hhi
            by_cases hlh : lo < b
            · have hl1 : decide (lo < b) = true := decide_eq_true hlh
              rw [if_pos hlh] at hstep
              rw [hstep] at HX
              clear hstep hlh
              go_wp2_with (at_builtin; refine wpList_append_own_at _ rfl (.tmp 75) (.tmp 85) 40 rfl L.heap.size 44 i0 _ 3 24 Try.underlying40 hi0 hz0 hz1 hz2 rfl (by decide) _ _ (fdl (feesRK l nm a b k)) rfl (HOQ.out.alloc _) ⟨Wq.heap.size, 0, none⟩ 1 1 (fdl [(lo, b, fe)]) rfl rfl (fd_src (Blk.new Wq 44 _)) (fdl_one _) (by have := HKL.out; unfold maxLen; omega) (by have := HKL.out; omega) (by have := HBQ.out.size; simp; omega) ?_; intro v5 w5 g1 g2 _ g3; have HO5 := Lib.hid g1; have HB5 := Lib.hid (below_grown (HBQ.out.alloc HBQ.out.size _) g2 (fun j hj => (World.ownsRow.lt HOQ.out j hj).1) (by have := HBQ.out.size; simp; omega)); clear g1 g2 g3)
              go_roundw
              case rel => exact ⟨k + 1, _, rfl, by go_num, by omega, HB5, Lib.hid (by rw [HX.out, List.length_append, fdl_app]; exact HO5.out)⟩
              case measure => simp [intOf]; omega
            · have hl1 : decide (lo < b) = false := decide_eq_false hlh
              rw [if_neg hlh] at hstep
              rw [hstep, List.append_nil] at HX
              clear hstep hlh
              go_wp2_with fail
              go_roundw
              case rel => exact ⟨k + 1, _, rfl, by go_num, by omega, HBQ, Lib.hid (by rw [HX.out]; exact HOQ.out)⟩
              case measure => simp [intOf]; omega
          · rw [if_pos rfl] at hhi
            rw [hhi] at hstep
            clear hhi
            by_cases hlh : lo < min b fr'
            · have hl1 : decide (lo < min b fr') = true := decide_eq_true hlh
              rw [if_pos hlh] at hstep
              rw [hstep] at HX
              clear hstep hlh
              go_wp2_with (at_builtin; refine wpList_append_own_at _ rfl (.tmp 75) (.tmp 85) 40 rfl L.heap.size 44 i0 _ 3 24 Try.underlying40 hi0 hz0 hz1 hz2 rfl (by decide) _ _ (fdl (feesRK l nm a b k)) rfl (HOQ.out.alloc _) ⟨Wq.heap.size, 0, none⟩ 1 1 (fdl [(lo, min b fr', fe)]) rfl rfl (fd_src (Blk.new Wq 44 _)) (fdl_one _) (by have := HKL.out; unfold maxLen; omega) (by have := HKL.out; omega) (by have := HBQ.out.size; simp; omega) ?_; intro v5 w5 g1 g2 _ g3; have HO5 := Lib.hid g1; have HB5 := Lib.hid (below_grown (HBQ.out.alloc HBQ.out.size _) g2 (fun j hj => (World.ownsRow.lt HOQ.out j hj).1) (by have := HBQ.out.size; simp; omega)); clear g1 g2 g3)
              go_roundw
              case rel => exact ⟨k + 1, _, rfl, by go_num, by omega, HB5, Lib.hid (by rw [HX.out, List.length_append, fdl_app]; exact HO5.out)⟩
              case measure => simp [intOf]; omega
            · have hl1 : decide (lo < min b fr') = false := decide_eq_false hlh
              rw [if_neg hlh] at hstep
              rw [hstep, List.append_nil] at HX
              clear hstep hlh
              go_wp2_with fail
              go_roundw
              case rel => exact ⟨k + 1, _, rfl, by go_num, by omega, HBQ, Lib.hid (by rw [HX.out]; exact HOQ.out)⟩
              case measure => simp [intOf]; omega
        · have hk1' : ¬ ((k : Int) + 1 < (n : Int)) := by omega
          have hk2 : decide ((k : Int) + 1 < (n : Int)) = false := decide_eq_false hk1'
          rw [decide_eq_false (show ¬ k + 1 < l.length by rw [HN.out]; exact hk1), Bool.false_and, if_neg (by simp)] at hhi
          rw [hhi] at hstep
          clear hhi
          by_cases hlh : lo < b
          · have hl1 : decide (lo < b) = true := decide_eq_true hlh
            rw [if_pos hlh] at hstep
            rw [hstep] at HX
            clear hstep hlh
            go_wp2_with (at_builtin; refine wpList_append_own_at _ rfl (.tmp 75) (.tmp 85) 40 rfl L.heap.size 44 i0 _ 3 24 Try.underlying40 hi0 hz0 hz1 hz2 rfl (by decide) _ _ (fdl (feesRK l nm a b k)) rfl (HOQ.out.alloc _) ⟨Wq.heap.size, 0, none⟩ 1 1 (fdl [(lo, b, fe)]) rfl rfl (fd_src (Blk.new Wq 44 _)) (fdl_one _) (by have := HKL.out; unfold maxLen; omega) (by have := HKL.out; omega) (by have := HBQ.out.size; simp; omega) ?_; intro v5 w5 g1 g2 _ g3; have HO5 := Lib.hid g1; have HB5 := Lib.hid (below_grown (HBQ.out.alloc HBQ.out.size _) g2 (fun j hj => (World.ownsRow.lt HOQ.out j hj).1) (by have := HBQ.out.size; simp; omega)); clear g1 g2 g3)
            go_roundw
            case rel => exact ⟨k + 1, _, rfl, by go_num, by omega, HB5, Lib.hid (by rw [HX.out, List.length_append, fdl_app]; exact HO5.out)⟩
            case measure => simp [intOf]; omega
          · have hl1 : decide (lo < b) = false := decide_eq_false hlh
            rw [if_neg hlh] at hstep
            rw [hstep, List.append_nil] at HX
            clear hstep hlh
            go_wp2_with fail
            go_roundw
            case rel => exact ⟨k + 1, _, rfl, by go_num, by omega, HBQ, Lib.hid (by rw [HX.out]; exact HOQ.out)⟩
            case measure => simp [intOf]; omega
    · obtain rfl : k = n := by omega
      go_wp2_with fail
      go_ret
      refine ⟨_, rfl, ?_, HBL.out.trans (HB.out.mono HBL.out.size)⟩
      rw [HN.out]
      exact own_mono HO.out HBL.out.size
end Go.Proofs.Ythjckkcafhiomaa.Pd
