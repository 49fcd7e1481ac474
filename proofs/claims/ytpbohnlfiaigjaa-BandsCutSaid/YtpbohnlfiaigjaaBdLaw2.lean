/- Walks: the laws on the band of an instant, on pieces. -/
import Derived.Test.YtpbohnlfiaigjaaBdLaw1
namespace Go.Proofs.Ytpbohnlfiaigjaa
open Go.RowKit

set_option maxRecDepth 100000 in
set_option maxHeartbeats 8000000 in
theorem walkBandsAt (A : Option Addr) (n c : Nat) (l : List Bd) (B : Option Addr) (m c' : Nat) (hol : List Int) (t : Int) (w : World) (hA : BdR w A l) (hn : l.length = n) (hc : n ≤ c) (hm : c ≤ maxLen) (hz : ∀ b ∈ l, b.2.length ≤ 6000000000000) (hB : IR w B hol) (hh : hol.length = m) (hc' : m ≤ c') (hm' : c' ≤ maxLen) :
    Calls Try.prog 4 #[.agg #[.slice A n c, .slice B m c'], .int .i64 t] w fun e w' => e = .returned (.bool true) ∧ Below w.heap.size w w' := by
  have HLT := Lib.hid (fun W h => light_any A B n c m c' l W h hn hc hm (by omega) hz)
  have HAT := Lib.hid (fun W h1 h2 => at_any A B n c m c' l hol t W h1 hn hc hm h2 hh hc' hm')
  have HRA := Lib.hid (fun W h1 h2 => refAt_any A B n c m c' l hol t W h1 hn hc hm h2 hh hc' hm')
  obtain ⟨v, hv⟩ : ∃ v, atW l hol t = v := ⟨_, rfl⟩
  rw [hv] at HAT HRA
  have HA := Lib.hid hA; have HB := Lib.hid hB
  have HBX := Lib.hid (Blk.new w 32 #[.slice A n c, .slice B m c'])
  have hb0 : Below w.heap.size w (w.alloc (.cells #[.slice A n c, .slice B m c'] 32)) := (Below.refl _ w).alloc (Nat.le_refl _) _
  have hs0 := hb0.size
  clear hA hB hn hm hh hz hv hm'
  go_enter Try.func4, Try.ntmps4
  go_wp2_with fail
  refine (HLT.out _ (HA.out.below hb0)).mono ?_
  rintro e w1 ⟨⟨lv, rfl, _⟩, hb1⟩
  have hbx := HBX.out.below hb1 HBX.out.lt
  have hl1 := hbx.lt
  obtain ⟨x0, x1⟩ := hbx.two
  have hb2 := hb0.trans (hb1.mono hs0)
  have hs2 := hb2.size
  clear hb0 hs0 hb1 hbx HLT HBX
  cases lv
  · go_wp2_with (go_at_call 14; (with_reducible refine (awake_any _).mono ?_); rintro e w6 ⟨rfl, hb6⟩; have hb7 := hb2.trans (hb6.mono hs2))
    go_ret
    exact ⟨rfl, hb7⟩
  · go_wp2_with fail
    go_region_held3 (fun w' => w'.cell? ⟨w.heap.size, 0, none⟩ = some (.slice A n c) ∧ w'.cell? ⟨w.heap.size, 1, none⟩ = some (.slice B m c')) (go_keep)
      (first
        | (go_at_call 18; (with_reducible refine (HAT.out _ ((HA.out.below hb2).below (drew_self _)) ((HB.out.below hb2).below (drew_self _))).mono ?_); rintro e w3 ⟨rfl, hb3⟩; have g0 := (hb3.cell (p := ⟨w.heap.size, 0, none⟩) hl1).trans x0; have g1 := (hb3.cell (p := ⟨w.heap.size, 1, none⟩) hl1).trans x1; have hb4 := hb2.trans ((drew_below hb3).mono hs2); have hs4 := hb4.size; have hl3 : w.heap.size < w3.heap.size := Nat.lt_of_lt_of_le hl1 hb3.size)
        | (go_at_call 19; (with_reducible refine (HRA.out _ (HA.out.below hb4) (HB.out.below hb4)).mono ?_); rintro e w5 ⟨rfl, hb5⟩; have i0 := (hb5.cell (p := ⟨w.heap.size, 0, none⟩) hl3).trans g0; have i1 := (hb5.cell (p := ⟨w.heap.size, 1, none⟩) hl3).trans g1; have hb6 := hb4.trans (hb5.mono hs4); have hs6 := hb6.size; have hl5 : w.heap.size < w5.heap.size := Nat.lt_of_lt_of_le hl3 hb5.size)
        | (go_at_call 14; (with_reducible refine (awake_any _).mono ?_); rintro e w7 ⟨rfl, hb7⟩; have j0 := (hb7.cell (p := ⟨w.heap.size, 0, none⟩) hl5).trans i0; have j1 := (hb7.cell (p := ⟨w.heap.size, 1, none⟩) hl5).trans i1; have hb8 := hb6.trans (hb7.mono hs6)))
    go_wp2_with fail
    go_ret
    exact ⟨rfl, hb8⟩
theorem cell_other {w : World} {g k : Nat} {v : Value} (h : w.cell? ⟨g, k, none⟩ = some v) (hg : g < w.heap.size) {w' : World} (hb : Below w.heap.size w w') : w'.cell? ⟨g, k, none⟩ = some v := (hb.cell (p := ⟨g, k, none⟩) hg).trans h
set_option maxHeartbeats 4000000 in
theorem same_pc (A B : Option Addr) (n c c' : Nat) (l : List Pc) (w : World) (hA : PcR w A l) (hB : PcR w B l) (hl : l.length = n) (hc : n ≤ c) (hm : c ≤ maxLen) (hc' : n ≤ c') (hm' : c' ≤ maxLen) :
    Calls Try.prog 20 #[.slice A n c, .slice B n c'] w fun e w' => e = .returned (.bool true) ∧ Below w.heap.size w w' := by
  have HA := Lib.hid hA; have HB := Lib.hid hB; have HL := Lib.hid hl
  have hgd := guardPiece
  unfold maxLen at hm hm'
  clear hA hB hl
  go_enter Try.func20, Try.ntmps20
  go_wp2_with fail
  go_loopw [5] (fun iv wr => ∃ k q : Nat, iv = .int .i64 k ∧ k ≤ n ∧ wr = w.drewN q) (fun iv _ => n - (intOf iv).toNat)
  case atStart => exact ⟨0, 0, rfl, by omega, rfl⟩
  case round =>
    obtain ⟨k, q, rfl, hk, rfl⟩ := hrel
    by_cases hlt : k < n
    · have hkl : k < l.length := by rw [HL.out]; exact hlt
      obtain ⟨ba, oa, rfl, _, a0, a1, a2⟩ := HA.out k hkl
      obtain ⟨bb, ob, rfl, _, b0, b1, b2⟩ := HB.out k hkl
      have hlt' : (k : Int) < (n : Int) := by omega
      obtain ⟨⟨m, x, y⟩, hp⟩ : ∃ p, l.getD k pc0 = p := ⟨_, rfl⟩
      rw [hp] at a0 a1 a2 b0 b1 b2
      simp only at a0 a1 a2 b0 b1 b2
      have hnq := neqPiece_same m x y
      clear hp hkl
      go_wp2_with fail
      go_quiet (fail)
      go_wp2_with fail
      go_roundw
      case rel => exact ⟨k + 1, _, by go_num, by omega, rfl⟩
      case measure => simp [intOf]; omega
    · obtain rfl : k = n := by omega
      go_wp2_with fail
      go_ret
      exact ⟨rfl, below_drewN (Below.refl _ _) _⟩
end Go.Proofs.Ytpbohnlfiaigjaa
