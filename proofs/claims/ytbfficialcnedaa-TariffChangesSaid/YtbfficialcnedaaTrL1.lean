/- Walk of the law on Changes. -/
import Derived.Test.YtbfficialcnedaaTn1
import Derived.Test.YtbfficialcnedaaTn2
import Derived.BigQuiet
import Derived.Deep.RegionHeld3
namespace Go.Proofs.Ytbfficialcnedaa
open Go Go.Lib Go.RowKit Go.Proofs.Ytbfficialcnedaa Go.Maps Ck

namespace Ck
/-- A slice that reads as these integers. -/
def ZR (w : World) (A : Option Addr) (zs : List Int) : Prop := ∀ i z, zs[i]? = some z → ∃ b off, A = some ⟨b, off, none⟩ ∧ b < w.heap.size ∧ w.cell? ⟨b, off + i, none⟩ = some (.int .i64 z)
theorem ZR.below {w w' : World} {A : Option Addr} {zs : List Int} (h : ZR w A zs) (hb : Below w.heap.size w w') : ZR w' A zs := fun i z hi => by
  obtain ⟨b, off, e, hl, g⟩ := h i z hi
  exact ⟨b, off, e, Nat.lt_of_lt_of_le hl hb.size, (hb.cell (p := ⟨b, off + i, none⟩) hl).trans g⟩
theorem zr_own {w : World} {base n : Nat} {v : Value} {zs : List Int} (h : w.ownsRow base 3 1 v n (zs.map (Value.int .i64))) (hn : zs.length = n) : ∃ A c, v = .slice A n c ∧ n ≤ c ∧ c ≤ maxLen ∧ ZR w A zs := by
  rcases h.2 with ⟨rfl, rfl⟩ | ⟨g, cap, cur, rfl, hb, hg, hnc, hcm, hcs, htake⟩
  · obtain rfl : zs = [] := by simpa using hn
    exact ⟨none, 0, rfl, Nat.le_refl _, Nat.zero_le _, fun i z hi => by simp at hi⟩
  · refine ⟨_, cap, rfl, hnc, hcm, fun i z hi => ⟨g, 0, rfl, (Array.getElem?_eq_some_iff.1 hg).1, ?_⟩⟩
    have hlt := (List.getElem?_eq_some_iff.1 hi).1
    rw [Nat.zero_add, World.ownsRow.cellAt h i (by omega), List.getElem?_map, hi]; rfl
theorem chgP_is (A : Option Addr) (n c : Nat) (l : List Tf) (nm : ByteArray) (a b : Int) {zs : List Int} {N : Nat} (hz : frs (l.filter (qC nm a b)) = zs) (hN : zs.length = N) (w : World) (hA : TLs w A l) (hn : l.length = n) (h6 : n ≤ 1000000) :
    Calls Try.prog 13 #[.slice A n c, .string nm, .agg #[.int .i64 a, .int .i64 b]] w fun e w' => ∃ A' c', e = .returned (.slice A' N c') ∧ N ≤ c' ∧ c' ≤ maxLen ∧ ZR w' A' zs ∧ Below w.heap.size w w' := by
  subst hz; subst hN
  refine (changes_is A n c l nm a b w hA hn h6).mono fun e w' ⟨v, he, ho, hb⟩ => ?_
  obtain ⟨A', c', rfl, h1, h2, h3⟩ := zr_own ho rfl
  exact ⟨A', c', he, h1, h2, h3, hb⟩
theorem chgR_is (A : Option Addr) (n c : Nat) (l : List Tf) (nm : ByteArray) (a b : Int) {zs : List Int} {N : Nat} (hz : frs (l.filter (qC nm a b)) = zs) (hN : zs.length = N) (w : World) (hA : TLs w A l) (hn : l.length = n) (hc : n ≤ c) (h6 : n ≤ 1000000) :
    Calls Try.prog 14 #[.slice A n c, .string nm, .agg #[.int .i64 a, .int .i64 b]] w fun e w' => ∃ A' c', e = .returned (.slice A' N c') ∧ N ≤ c' ∧ c' ≤ maxLen ∧ ZR w' A' zs ∧ Below w.heap.size w w' := by
  subst hz; subst hN
  refine (refChanges_is A n c l nm a b w hA hn hc h6).mono fun e w' ⟨v, he, ho, hb⟩ => ?_
  obtain ⟨A', c', rfl, h1, h2, h3⟩ := zr_own ho rfl
  exact ⟨A', c', he, h1, h2, h3, hb⟩
/-- Behind the box of the period. -/
def LwS (w : World) (g : Nat) (a b : Int) (W : World) : Prop := Below w.heap.size w W ∧ Blk W g 36 #[.int .i64 a, .int .i64 b]
theorem LwS.keep {w W W' : World} {g : Nat} {a b : Int} (h : LwS w g a b W) (hb : Below W.heap.size W W') : LwS w g a b W' := ⟨h.1.trans (hb.mono h.1.size), h.2.below hb h.2.lt⟩
theorem LwS.drew {w W : World} {g : Nat} {a b : Int} (h : LwS w g a b W) : LwS w g a b W.drew := ⟨below_dN h.1 1, h.2.drew⟩
theorem LwS.bel {w W : World} {g : Nat} {a b : Int} (h : LwS w g a b W) : Below w.heap.size w W := h.1
theorem LwS.cells {w w' : World} {g : Nat} {a b : Int} (h : LwS w g a b w') : w'.cell? ⟨g, 0, none⟩ = some (.int .i64 a) ∧ w'.cell? ⟨g, 1, none⟩ = some (.int .i64 b) := ⟨h.2.cell 0, h.2.cell 1⟩
end Ck
set_option maxRecDepth 100000 in
set_option maxHeartbeats 16000000 in
theorem walkTariffChanges (A : Option Addr) (n c : Nat) (l : List Tf) (nm : ByteArray) (a b : Int) (w : World) (hA : TLw w A l) (hn : l.length = n) (hc : n ≤ c) (hm : c ≤ maxLen) :
    Calls Try.prog 4 #[.slice A n c, .string nm, .agg #[.int .i64 a, .int .i64 b]] w fun e w' => e = .returned (.bool true) ∧ Below w.heap.size w w' := by
  obtain ⟨g, hg⟩ : ∃ g, w.heap.size = g := ⟨_, rfl⟩
  obtain ⟨L, hL⟩ : ∃ L, w.alloc (.cells #[.int .i64 a, .int .i64 b] 36) = L := ⟨_, rfl⟩
  have ST : Hid (LwS w g a b L) := Lib.hid ⟨hL ▸ below_one w _, hL ▸ hg ▸ Blk.new w _ _⟩
  have HSM := Lib.hid (smallL_any A n c l L (hA.below ST.out.bel) hn hc hm)
  obtain ⟨zs, hz⟩ : ∃ zs, frs (l.filter (qC nm a b)) = zs := ⟨_, rfl⟩
  obtain ⟨N, hN⟩ : ∃ N, zs.length = N := ⟨_, rfl⟩
  have HP := Lib.hid (fun (hf : n ≤ 8 ∧ ∀ (k : Nat) (t : Tf), l[k]? = some t → Zn.Fit t.zl) W (h : Below w.heap.size w W) => chgP_is A n c l nm a b hz hN W ((hA.below h).tls hf.2) hn (by omega))
  have HR := Lib.hid (fun (hf : n ≤ 8 ∧ ∀ (k : Nat) (t : Tf), l[k]? = some t → Zn.Fit t.zl) W (h : Below w.heap.size w W) => chgR_is A n c l nm a b hz hN W ((hA.below h).tls hf.2) hn hc (by omega))
  have HAW := Lib.hid (fun W => awakeT_any W)
  have hNn : N ≤ n := by
    rw [← hN, ← hz, ← hn]; unfold frs; rw [List.length_map]; exact List.length_filter_le _ _
  have HN := Lib.hid hN
  clear hA hz hN
  go_enter Try.func4, Try.ntmps4
  go_wp2_with fail
  refine HSM.out.mono ?_
  rintro e w1 ⟨v, rfl, hv, hb1⟩
  have ST1 := Lib.hid (ST.out.keep hb1)
  clear hb1
  cases v
  · clear hv
    go_wp2_with (go_at_call 9; (with_reducible refine (HAW.out _).mono ?_); rintro e w3 ⟨rfl, hb3⟩; have ST3 := Lib.hid (ST1.out.keep hb3); clear hb3)
    go_ret
    exact ⟨rfl, ST3.out.bel⟩
  have HF := Lib.hid (hv rfl)
  clear hv
  have hn8 := HF.out.1
  cases hq : decide ((300 : Int) < (nm.size : Int))
  rotate_left
  · go_wp2_with (go_at_call 9; (with_reducible refine (HAW.out _).mono ?_); rintro e w3 ⟨rfl, hb3⟩; have ST3 := Lib.hid (ST1.out.keep hb3); clear hb3)
    go_ret
    exact ⟨rfl, ST3.out.bel⟩
  have HP1 := Lib.hid (HP.out HF.out)
  have HR1 := Lib.hid (HR.out HF.out)
  have STD := Lib.hid ST1.out.drew
  obtain ⟨k0, k1⟩ := ST1.out.cells
  go_wp2_with fail
  clear hL
  go_region_held3 (fun w' => w'.cell? ⟨g, 0, none⟩ = some (.int .i64 a) ∧ w'.cell? ⟨g, 1, none⟩ = some (.int .i64 b))
    (first | exact ST1.out.cells | exact STD.out.cells | go_keep)
    (first
      | (go_at_call 13; go_loud ((with_reducible refine (HP1.out _ STD.out.bel).mono ?_); rintro e wn ⟨A1, m1, rfl, x1, x2, x3, hb⟩; replace ST1 := Lib.hid (STD.out.keep hb); have HZ1 := Lib.hid x3; have HC1 := Lib.hid (And.intro x1 x2); clear hb x1 x2 x3))
      | (go_at_call 14; go_loud ((with_reducible refine (HR1.out _ ST1.out.bel).mono ?_); rintro e wn ⟨A2, m2, rfl, x1, x2, x3, hb⟩; replace ST1 := Lib.hid (ST1.out.keep hb); replace HZ1 := Lib.hid (HZ1.out.below hb); have HZ2 := Lib.hid x3; have HC2 := Lib.hid (And.intro x1 x2); clear hb x1 x2 x3)))
  clear k0 k1
  go_wp2_with fail
  go_loopw [9] (fun iv wr => ∃ k : Nat, iv = .int .i64 (k : Nat) ∧ k ≤ N ∧ Hid (LwS w g a b wr) ∧ Hid (ZR wr A1 zs) ∧ Hid (ZR wr A2 zs)) (fun iv _ => N - (RowKit.intOf iv).toNat)
  case atStart => exact ⟨0, rfl, Nat.zero_le _, ST1, HZ1, HZ2⟩
  case round =>
    obtain ⟨k, rfl, hk, ST4, HY1, HY2⟩ := hrel
    by_cases hlt : k < N
    · have hlt' : (k : Int) < (N : Int) := by omega
      obtain ⟨z, hz⟩ : ∃ z, zs[k]? = some z := ⟨_, List.getElem?_eq_getElem (by rw [HN.out]; exact hlt)⟩
      obtain ⟨b1, o1, rfl, -, c1⟩ := HY1.out k z hz
      obtain ⟨b2, o2, rfl, -, c2⟩ := HY2.out k z hz
      have hzz : (z != z) = false := by simp
      go_wp2_with fail
      go_quiet (fail)
      go_wp2_with fail
      go_roundw
      case rel => exact ⟨k + 1, by go_num, by omega, Lib.hid (ST4.out.keep (below_dN (Below.refl _ _) nq)), Lib.hid (HY1.out.below (below_dN (Below.refl _ _) nq)), Lib.hid (HY2.out.below (below_dN (Below.refl _ _) nq))⟩
      case measure => simp [RowKit.intOf]; omega
    · obtain rfl : k = N := by omega
      have hd : decide ((k : Int) < (k : Int)) = false := decide_eq_false (by omega)
      go_wp2_with (go_at_call 9; (with_reducible refine (HAW.out _).mono ?_); rintro e w3 ⟨rfl, hb3⟩; have ST5 := Lib.hid (ST4.out.keep hb3); clear hb3)
      go_ret
      exact ⟨rfl, ST5.out.bel⟩
end Go.Proofs.Ytbfficialcnedaa
