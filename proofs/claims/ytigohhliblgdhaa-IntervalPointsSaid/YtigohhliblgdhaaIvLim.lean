/- Walk of the reference: the limits of the valid periods of a list. -/
import Derived.Test.YtigohhliblgdhaaIvAdd
import Derived.Deep.RegionHeld3
namespace Go.Proofs.Ytigohhliblgdhaa
open Go.RowKit

theorem IR.drew {w : World} {A : Option Addr} {l : List Int} (h : IR w A l) : IR w.drew A l := h
theorem PR.drew {w : World} {A : Option Addr} {l : List Pd} (h : PR w A l) : PR w.drew A l := h
theorem lim_take_step {l : List Int} {L : List Pd} {k : Nat} {u z : Int} (h : k < L.length) (hp : L.getD k (0, 0) = (u, z)) (v : Bool) (hv : vl (u, z) = v) (o : List Int) (ho : lim l (L.take k) = o) :
    lim l (L.take (k + 1)) = if v then adL (adL o u) z else o := by
  rw [take_step h, hp, lim_snoc, hv, ho]
set_option maxHeartbeats 4000000 in
theorem limits_any (A B : Option Addr) (m n c c' : Nat) (l : List Int) (L : List Pd) (w : World) (hA : IR w A l) (hB : PR w B L) (hm : l.length = m) (hn : L.length = n) (hmc : m ≤ c) (hnc : n ≤ c') (h5 : m + 2 * n ≤ 5000) :
    Calls Try.prog 41 #[.slice A m c, .slice B n c'] w (InOut (lim l L) w) := by
  have HB := Lib.hid hB
  have HN := Lib.hid hn
  have HI := Lib.hid hA
  have HM := Lib.hid hm
  clear hA hB hn hm
  go_enter Try.func41, Try.ntmps41
  go_wp2
  go_loopw [0, 5] (fun v i wr => ∃ (k : Nat) (A1 : Option Addr) (q c1 : Nat) (o : List Int), k ≤ n ∧ i = .int .i64 k ∧ v = .slice A1 q c1 ∧ q ≤ c1 ∧ q ≤ m + 2 * k ∧ Hid (o.length = q) ∧ Hid (IR wr A1 o) ∧ Below w.heap.size w wr ∧ Hid (lim l (L.take k) = o)) (fun _ i _ => n - (intOf i).toNat)
  case atStart => exact ⟨0, A, m, c, l, by omega, rfl, rfl, hmc, by omega, HM, HI, Below.refl _ _, Lib.hid (by rw [List.take_zero, lim_nil])⟩
  case round =>
    obtain ⟨k, A1, q, c1, o, hk, rfl, rfl, hqc, hq, HQ, HO, hb, HE⟩ := hrel
    by_cases hlt : k < n
    · obtain ⟨bk, off, rfl, hbl, d0, d1⟩ := HB.out k (by rw [HN.out]; exact hlt)
      have e0 := (hb.cell (p := ⟨bk, off + k * 2, none⟩) hbl).trans d0
      have e1 := (hb.cell (p := ⟨bk, off + k * 2 + 1, none⟩) hbl).trans d1
      have hbl2 : bk < wr.heap.size := Nat.lt_of_lt_of_le hbl hb.size
      have hlt' : (k : Int) < (n : Int) := by omega
      have h0' : (0 : Int) ≤ (k : Int) := by omega
      obtain ⟨p, hp⟩ : ∃ p, L.getD k (0, 0) = p := ⟨_, rfl⟩
      obtain ⟨u, z⟩ := p
      have HS := Lib.hid (lim_take_step (l := l) (show k < L.length by rw [HN.out]; exact hlt) hp)
      rw [hp] at e0 e1
      simp only at e0 e1
      clear hp d0 d1
      cases hv : vl (u, z)
      · have HV := Lib.hid (fun w => refValid_is u z _ hv w)
        have HS2 : Hid (lim l (L.take (k + 1)) = o) := Lib.hid (by rw [HS.out _ hv o HE.out]; rfl)
        clear hv HS
        go_wp2_with (go_at_call 12; (with_reducible refine (HV.out _).mono ?_); rintro e w1 ⟨rfl, hb1⟩; have hb2 : Below w.heap.size w w1 := hb.trans (hb1.mono hb.size))
        go_roundw
        case rel => exact ⟨k + 1, A1, q, c1, o, by omega, by go_num, rfl, hqc, by omega, HQ, Lib.hid (HO.out.below hb1), hb2, HS2⟩
        case measure => simp [intOf]; omega
      · have HV := Lib.hid (fun w => refValid_is u z _ hv w)
        have HS2 : Hid (lim l (L.take (k + 1)) = adL (adL o u) z) := Lib.hid (by rw [HS.out _ hv o HE.out]; rfl)
        have hl1 := adGo_length u o false
        have hl2 := adGo_length z (adL o u) false
        have HL1 : Hid ((adL o u).length ≤ q + 1) := Lib.hid (by rw [← HQ.out]; exact hl1)
        have HL2 : Hid ((adL (adL o u) z).length ≤ (adL o u).length + 1) := Lib.hid hl2
        clear hv HS hl1 hl2
        go_wp2_with (go_at_call 12; (with_reducible refine (HV.out _).mono ?_); rintro e w1 ⟨rfl, hb1⟩; have HO1 := Lib.hid (HO.out.below hb1); have hb2 : Below w.heap.size w w1 := hb.trans (hb1.mono hb.size); have f0 := (hb1.cell (p := ⟨bk, off + k * 2, none⟩) hbl2).trans e0; have f1 := (hb1.cell (p := ⟨bk, off + k * 2 + 1, none⟩) hbl2).trans e1; have hbl3 : bk < w1.heap.size := Nat.lt_of_lt_of_le hbl2 hb1.size; clear e0 e1 hb1)
        go_region_held3 (fun w' => w'.cell? ⟨bk, off + k * 2, none⟩ = some (.int .i64 u) ∧ w'.cell? ⟨bk, off + k * 2 + 1, none⟩ = some (.int .i64 z)) (go_keep)
          (first
            | (go_at_call 32; (with_reducible refine (add_any _ _ _ o u _ HO1.out.drew HQ.out (by omega) hqc).mono ?_); rintro e w2 ⟨A2, c2, rfl, hc2, hI2, hb3⟩; have HI2 := Lib.hid hI2; have g0 := (hb3.cell (p := ⟨bk, off + k * 2, none⟩) hbl3).trans f0; have g1 := (hb3.cell (p := ⟨bk, off + k * 2 + 1, none⟩) hbl3).trans f1; have hbl4 : bk < w2.heap.size := Nat.lt_of_lt_of_le hbl3 hb3.size; clear hI2)
            | (go_at_call 32; (with_reducible refine (add_any _ _ _ (adL o u) z _ HI2.out rfl (by have := HL1.out; omega) hc2).mono ?_); rintro e w3 ⟨A3, c3, rfl, hc3, hI3, hb4⟩; have HI3 := Lib.hid hI3; have j0 := (hb4.cell (p := ⟨bk, off + k * 2, none⟩) hbl4).trans g0; have j1 := (hb4.cell (p := ⟨bk, off + k * 2 + 1, none⟩) hbl4).trans g1; clear hI3))
        have hb5 : Below w.heap.size w w3 := hb2.trans (((drew_below hb3).trans (hb4.mono hb3.size)).mono hb2.size)
        go_wp2
        go_roundw
        case rel => exact ⟨k + 1, A3, _, c3, adL (adL o u) z, by omega, by go_num, rfl, hc3, by have := HL1.out; have := HL2.out; omega, Lib.hid rfl, HI3, hb5, HS2⟩
        case measure => simp [intOf]; omega
    · obtain rfl : k = n := by omega
      have HE2 : Hid (lim l L = o) := Lib.hid (by have := HE.out; rw [← HN.out, List.take_length] at this; exact this)
      clear HE
      go_wp2
      go_ret
      have he := HE2.out
      rw [he]
      exact ⟨A1, c1, by simp [HQ.out], by rw [HQ.out]; exact hqc, HO.out, hb⟩
end Go.Proofs.Ytigohhliblgdhaa
