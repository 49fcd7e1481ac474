/- Walk of the law FrameChanged. -/
import Derived.Test.YtfamghmoanfdgaaRows
import Derived.Test.YtfamghmoanfdgaaFrL4
import Derived.Deep.Cut
namespace Go.Proofs.Ytfamghmoanfdgaa
open Go.RowKit

theorem own_set {w : World} {base g m c k : Nat} {l : List Int} {y : Int} (h : Own w base (.slice (some ⟨g, 0, none⟩) m c) l) (hk : k < l.length) (h0 : 0 ≤ y) (h1 : y ≤ 255) :
    Own (w.setCell ⟨g, k, none⟩ (.int .u8 y)) base (.slice (some ⟨g, 0, none⟩) m c) (l.set k y) := by
  obtain ⟨⟨hl, h2⟩, hr⟩ := h
  rcases h2 with ⟨hv, _⟩ | ⟨g', cap, cur, hv, hb, hg, hnc, hcm, hcs, htake⟩
  · cases hv
  · simp only [Value.slice.injEq, Option.some.injEq, Addr.mk.injEq, and_true, true_and] at hv
    obtain ⟨rfl, rfl, rfl⟩ := hv
    refine ⟨⟨by rw [C8_len, List.length_set]; omega, .inr ⟨g, c, cur.setIfInBounds k (.int .u8 y), by rw [List.length_set], hb, ?_, by rw [List.length_set]; exact hnc, hcm, by simpa using hcs, ?_⟩⟩, fun x hx => ?_⟩
    · simp [World.setCell, Array.getElem?_modify, hg]
    · rw [List.length_set, Array.toList_setIfInBounds, List.take_set, htake]
      simp only [C8, List.map_set]
    · rcases List.mem_or_eq_of_mem_set hx with h | h
      · exact hr x h
      · subst h; exact ⟨h0, h1⟩
theorem own_cellk {w : World} {base g m c k : Nat} {l : List Int} (h : Own w base (.slice (some ⟨g, 0, none⟩) m c) l) (hk : k < l.length) : w.cell? ⟨g, k, none⟩ = some (.int .u8 l[k]) ∧ w.frozen? ⟨g, k, none⟩ = false := by
  obtain ⟨⟨hl, h2⟩, hr⟩ := h
  rcases h2 with ⟨hv, _⟩ | ⟨g', cap, cur, hv, hb, hg, hnc, hcm, hcs, htake⟩
  · cases hv
  · simp only [Value.slice.injEq, Option.some.injEq, Addr.mk.injEq, and_true, true_and] at hv
    obtain ⟨rfl, rfl, rfl⟩ := hv
    refine ⟨?_, by simp [World.frozen?, hg]⟩
    have h3 : cur.toList[k]? = some (.int .u8 l[k]) := by
      have h4 := C8_at hk
      rw [← htake, List.getElem?_take_of_lt (by omega)] at h4
      exact h4
    simp only [World.cell?, hg]
    simpa using h3
theorem xor_ne {x : Int} {d : Nat} (h0 : 0 ≤ x) (h1 : x ≤ 255) (hd0 : 1 ≤ d) (hd : d ≤ 255) : ∃ y : Int, bits BinOp.xor .u8 x (d : Int) = y ∧ 0 ≤ y ∧ y ≤ 255 ∧ x ≠ y := by
  obtain ⟨n, rfl⟩ := Int.eq_ofNat_of_zero_le h0
  have hx : n ^^^ d < 2 ^ 8 := Nat.xor_lt_two_pow (by omega) (by omega)
  have e1 : (BitVec.ofInt 8 (n : Int)).toNat = n := by
    rw [BitVec.ofInt_natCast, BitVec.toNat_ofNat]; exact Nat.mod_eq_of_lt (by omega)
  have e2 : (BitVec.ofInt 8 (d : Int)).toNat = d := by
    rw [BitVec.ofInt_natCast, BitVec.toNat_ofNat]; exact Nat.mod_eq_of_lt (by omega)
  refine ⟨((n ^^^ d : Nat) : Int), ?_, by omega, by omega, ?_⟩
  · show IntKind.u8.wrap ((BitVec.ofInt 8 (n : Int) ^^^ BitVec.ofInt 8 (d : Int)).toNat : Int) = _
    rw [BitVec.toNat_xor, e1, e2, wrap_u8]
    omega
  · intro h
    have h2 : n = n ^^^ d := by omega
    have h3 : n ^^^ 0 = n ^^^ d := by simpa using h2
    have := xor_left h3
    omega
theorem frm_len {p : List Int} (hp : p.length ≤ 60) : (frm p).length = 5 + p.length := by
  have hz : zig (p.length : Int) = 2 * p.length := by unfold zig; split <;> omega
  have h1 : (numE p.length).length = 1 := by rw [numE, hz, grp_small (by omega)]; rfl
  simp only [frm, List.length_append, be4_len, h1]; omega
set_option maxRecDepth 100000 in
set_option maxHeartbeats 16000000 in
theorem changedGood (A : Option Addr) (n c : Nat) (p : List Int) (z1 z2 : Int) (W : World) (hA : Byt W A n c p) (hn : n ≤ 60) (hz1 : 0 ≤ z1 ∧ z1 ≤ 255) (hz2 : 0 ≤ z2 ∧ z2 ≤ 255) :
    Calls Try.prog 9 #[.slice A n c, .int .u8 z1, .int .u8 z2] W fun e w' => e = .returned (.bool true) ∧ Below W.heap.size W w' := by
  have HALV := Lib.hid alive_any
  have hl := hA.len
  have hfl := frm_len (p := p) (by omega)
  have hW := wrap_ok hA (show fits p = true by simp [fits]; omega)
  have HW := Lib.hid hW; have HFL := Lib.hid hfl; have HL := Lib.hid hl; have HA := Lib.hid hA
  have hni : (n : Int) ≤ 60 := by omega
  clear hW hfl hl hA
  go_enter Try.func9, Try.ntmps9
  go_upto_region 6 with (go_at_call 15; refine HW.out.mono ?_; rintro e w1 ⟨v1, rfl, ho1, hb1⟩; obtain ⟨A1, m1, c1, rfl, hm1, y1⟩ := ho1.bytm; obtain rfl : m1 = 5 + n := (by have := hm1.out; have := HFL.out; have := HL.out; omega); have HO1 := Lib.hid ho1; have HB1 := Lib.hid hb1; have Y1 := Lib.hid y1; clear ho1 hb1 y1)
  have ho1 := HO1.out
  obtain ⟨A2, c2, hv, _, hg⟩ := own_form ho1.1
  simp only [Value.slice.injEq] at hv
  obtain ⟨rfl, -, rfl⟩ := hv
  have hfl : (frm p).length = 5 + n := by have := HFL.out; have := HL.out; omega
  obtain ⟨g, rfl, hbg, hgl, -⟩ := hg (by omega)
  obtain ⟨k, hk⟩ : ∃ k : Nat, 1 + z1.toNat % (4 + n) = k := ⟨_, rfl⟩
  have hk5 : k < 5 + n := by have := Nat.mod_lt z1.toNat (show 0 < 4 + n by omega); omega
  have hk1 : 1 ≤ k := by omega
  have hki : wrap64 (1 + z1 % (5 + (n : Int) - 1)) = (k : Int) := by
    obtain ⟨zn, rfl⟩ := Int.eq_ofNat_of_zero_le hz1.1
    rw [show ((zn : Nat) : Int).toNat = zn by omega] at hk
    have e : ((zn : Nat) : Int) % (5 + (n : Int) - 1) = ((zn % (4 + n) : Nat) : Int) := by
      rw [show 5 + (n : Int) - 1 = ((4 + n : Nat) : Int) by omega]; rfl
    rw [e]
    unfold wrap64; omega
  have hkk : (k : Int) < 5 + (n : Int) := by omega
  obtain ⟨hcell, hfr⟩ := own_cellk ho1 (show k < (frm p).length by omega)
  have hran := ho1.2 _ (List.getElem_mem (show k < (frm p).length by omega))
  obtain ⟨y, hy, hy0, hy1, hxy⟩ := xor_ne (x := (frm p)[k]) (d := 1 + z2.toNat % 255) hran.1 hran.2 (by omega) (by have := Nat.mod_lt z2.toNat (show 0 < 255 by decide); omega)
  have hz2e : ((1 + z2.toNat % 255 : Nat) : Int) = 1 + z2 % 255 := by omega
  rw [hz2e] at hy
  have ho2 := own_set ho1 (show k < (frm p).length by omega) hy0 hy1
  have hcut := cutR_set p k y (by have := HL.out; omega) HA.out.ran hy0 hy1 hk1 (by omega) hxy
  obtain ⟨x, hx⟩ : ∃ x, (frm p)[k] = x := ⟨_, rfl⟩
  rw [hx] at hy hcell
  have hB2 : Below W.heap.size W (w1.setCell ⟨g, k, none⟩ (.int .u8 y)) := HB1.out.setCell hbg _
  obtain ⟨w2, hw2⟩ : ∃ w2, w1.setCell ⟨g, k, none⟩ (.int .u8 y) = w2 := ⟨_, rfl⟩
  rw [hw2] at ho2 hB2
  obtain ⟨F, hF⟩ : ∃ F, (frm p).set k y = F := ⟨_, rfl⟩
  rw [hF] at ho2 hcut
  obtain ⟨A3, m3, c3, hv3, hm3, y3⟩ := ho2.bytm
  simp only [Value.slice.injEq] at hv3
  obtain ⟨rfl, rfl, rfl⟩ := hv3
  have hU := unwrap_any y3 (by omega)
  have hAl := fun (w3 : World) (hb : Below w2.heap.size w2 w3) => all_any (y3.below hb) (by omega)
  unfold UnwP at hU
  unfold AllP at hAl
  rw [hcut] at hU
  rw [allR_stop (b := F) (by rw [hcut]; decide)] at hAl
  have HU := Lib.hid hU; have HAL := Lib.hid hAl; have HB2 := Lib.hid hB2
  clear hU hAl hB2 y3 hm3 hcut hF ho2 hxy hx hz2e ho1 hg hfl hk hran hbg hgl
  go_wp2_with (first
    | (go_at_call 20; refine HU.out.mono ?_; rintro e w3 ⟨v1, v2, rfl, hp1, hp2, hb3⟩; obtain ⟨E1, n1, e1, rfl, hn1, -⟩ := hp1.bytm; obtain ⟨E2, n2, e2, rfl, hn2, -⟩ := hp2.bytm; obtain rfl : n1 = 0 := hn1.out; obtain rfl : n2 = 0 := hn2.out; have HAL3 := Lib.hid (HAL.out _ hb3); have HB3 := Lib.hid (HB2.out.trans (hb3.mono HB2.out.size)); clear hp1 hp2 hb3)
    | (go_at_call 22; refine HAL3.out.mono ?_; rintro e w4 ⟨v4, k4, rfl, hk4, hf4, hb4⟩; obtain rfl : k4 = 0 := hk4.trans (Int.sub_self _); clear hk4; obtain ⟨E3, e3, rfl, -⟩ := found_at' (N := 0) (ps := []) rfl hf4; have HB4 := Lib.hid (HB3.out.trans (hb4.mono HB3.out.size)); clear hf4 hb4)
    | (go_at_call 13; refine (HALV.out _).mono ?_; rintro e w7 ⟨rfl, hb7⟩))
  go_ret
  exact ⟨rfl, HB4.out.trans (hb7.mono HB4.out.size)⟩

set_option maxRecDepth 100000 in
set_option maxHeartbeats 4000000 in
theorem walkFrameChanged (A : Option Addr) (n c : Nat) (zs : List Int) (z1 z2 : Int) (W : World) (h0 : IsRow .u8 W A n c zs) (h1 : (Lit.int .u8 z1).wf = true) (h2 : (Lit.int .u8 z2).wf = true) :
    Calls Try.prog 9 #[.slice A n c, .int .u8 z1, .int .u8 z2] W fun e w' => e = .returned (.bool true) ∧ Below W.heap.size W w' := by
  by_cases hn : n ≤ 60
  · exact changedGood A n c _ z1 z2 W (byt_of_row h0) hn (u8_bounds h1) (u8_bounds h2)
  · have HALV := Lib.hid alive_any
    have hni : (60 : Int) < (n : Int) := by omega
    clear h0 h1 h2 hn
    go_enter Try.func9, Try.ntmps9
    go_wp2_with (go_at_call 13; refine (HALV.out _).mono ?_; rintro e w7 ⟨rfl, hb7⟩)
    go_ret
    exact ⟨rfl, hb7⟩
end Go.Proofs.Ytfamghmoanfdgaa
