/- Walk of the law on the greatest length. -/
import Derived.Test.YtkdimbpmgngajaaDoorLxJ2
namespace Go.Proofs.YtkdimbpmgngajaaDoor
open Go Go.Lib Go.RowKit Lx Go.Maps

namespace Lx
theorem byteInfo : (Tryd.prog.info? 5).map (fun i => (i.zero, i.size, i.bytes)) = some (some (.int .u8 0), 1, 1) := by kernel_rfl
def bb (l : Wd) : List Value := l.map fun b => .int .u8 (b.toNat : Int)
/-- A row of blanks that is being filled. -/
def fil (N k : Nat) : Wd := List.replicate k 32 ++ List.replicate (N - k) 0
theorem fil_len {N k : Nat} (h : k ≤ N) : (fil N k).length = N := by simp [fil]; omega
theorem fil_zero (N : Nat) : bb (fil N 0) = (madeCells (Value.int .u8 0).cells (N * 1)).toList := by
  rw [Nat.mul_one]
  apply List.ext_getElem
  · simp [madeCells, bb, fil]
  · intro i h1 h2
    simp [madeCells, bb, fil, Value.cells, Nat.mod_one]
theorem fil_set {N k : Nat} (h : k < N) : (bb (fil N k)).set k (.int .u8 32) = bb (fil N (k + 1)) := by
  have h1 : N - k = (N - (k + 1)) + 1 := by omega
  unfold bb fil
  rw [h1, List.replicate_succ, List.map_append, List.set_append_right _ _ (by simp)]
  simp [List.replicate_succ']
theorem fil_all (N : Nat) : fil N N = List.replicate N 32 := by simp [fil]
theorem fil_last {N : Nat} (h : 0 < N) : (bb (fil N N)).set (N - 1) (.int .u8 97) = bb (List.replicate (N - 1) 32 ++ [97]) := by
  obtain ⟨m, rfl⟩ : ∃ m, N = m + 1 := ⟨N - 1, by omega⟩
  rw [fil_all]
  unfold bb
  rw [List.replicate_succ', List.map_append, Nat.add_sub_cancel, List.set_append_right _ _ (by simp)]
  simp
theorem bb_conv (w : World) {base g N c : Nat} {l : Wd} (h : w.ownsRow base 5 1 (.slice (some ⟨g, 0, none⟩) N c) N (bb l)) (hl : l.length = N) : (convert 38 9 (.slice (some ⟨g, 0, none⟩) N c)).run Tryd.prog w = .ok (.string ⟨⟨l⟩⟩) w := by
  have := run_convert_bytes_back (P := Tryd.prog) w 38 9 5 ⟨g, 0, none⟩ c l Tryd.underlying38 Tryd.underlying5 Tryd.underlying9 (fun j hj => by
    have hc := World.ownsRow.cellAt h j (by rw [hl] at hj; omega)
    rw [add_none, Nat.zero_add, hc]
    simp [bb, hj])
  rwa [hl] at this
theorem skp_blanks (r : Wd) : ∀ N : Nat, skp false (List.replicate N 32 ++ r) = skp false r
  | 0 => by simp
  | N + 1 => by
    rw [List.replicate_succ, List.cons_append, skp, if_neg (by decide), if_pos (by decide)]
    exact skp_blanks r N
theorem scn_blanks (N : Nat) : scn (List.replicate N 32) = .ok [⟨0, 0, []⟩] := by
  have := skp_blanks [] N
  rw [List.append_nil] at this
  exact scn_end this
theorem scn_word (N : Nat) : scn (List.replicate N 32 ++ [97]) = .ok [⟨1, 1, [97]⟩, ⟨0, 0, []⟩] := by
  rw [scn_skp (skp_blanks [97] N)]
  rfl
theorem scnP_big {r : Wd} (h : 65536 < r.length) : scnP r = .error (r.length, 5) := by unfold scnP; rw [if_pos h]
end Lx
set_option maxRecDepth 100000 in
set_option maxHeartbeats 16000000 in
theorem walkLexerLimits (z : Int) (v : Bool) (w : World) (hz : (Lit.int .u8 z).wf = true) :
    Calls Tryd.prog 8 #[.int .u8 z, .bool v] w fun e w' => e = .returned (.bool true) ∧ Below w.heap.size w w' := by
  obtain ⟨h0, h1⟩ := u8_bounds hz
  obtain ⟨r, hr⟩ : ∃ r, z.tmod 21 = r := ⟨_, rfl⟩
  have hr0 : 0 ≤ r ∧ r < 21 := by rw [← hr, Int.tmod_eq_emod_of_nonneg h0]; omega
  obtain ⟨N, hN⟩ : ∃ N : Nat, 65526 + r = (N : Int) := ⟨(65526 + r).toNat, by omega⟩
  have hN1 : 65526 ≤ N ∧ N ≤ 65546 := by omega
  obtain ⟨i0, hi0, hz0, hz1, hz2⟩ := info_parts byteInfo
  clear hz
  go_enter Tryd.func8, Tryd.ntmps8
  go_wp2_with (at_make; refine wpList_make_full _ rfl _ _ 38 rfl w.heap.size 5 i0 (.int .u8 0) 1 Tryd.underlying38 hi0 hz0 hz1 _ _ _ _ N rfl rfl (by omega) (by omega) (by rw [hz2]; omega) (by unfold maxLen; omega) (Nat.le_refl _) ?_; intro w1 hown0 hg0)
  rw [← fil_zero] at hown0
  have hb1 : Below w.heap.size w w1 := (Below.refl _ _).grown hg0 (Nat.le_refl _) (fun _ h => by cases h)
  have HO := Lib.hid hown0; have HB := Lib.hid hb1
  clear hown0 hb1 hg0
  go_loopw [7] (fun i wr => ∃ k : Nat, k ≤ N ∧ i = .int .i64 k ∧ Hid (wr.ownsRow w.heap.size 5 1 (.slice (some ⟨w.heap.size, 0, none⟩) N N) N (bb (fil N k))) ∧ Hid (Below w.heap.size w wr)) (fun i _ => N - (RowKit.intOf i).toNat)
  case atStart => exact ⟨0, by omega, rfl, HO, HB⟩
  case round =>
    obtain ⟨k, hk, rfl, HO1, HB1⟩ := hrel
    clear HO HB
    by_cases hlt : k < N
    · have hf := World.ownsRow.frozenAt HO1.out k
      have hc := World.ownsRow.cellAt HO1.out k (by omega)
      rw [show (bb (fil N k))[k]? = some (.int .u8 0) by unfold bb fil; rw [List.map_append, List.getElem?_append_right (by simp)]; simp; rw [List.getElem?_replicate, if_pos (by omega)]] at hc
      have hlt' : (k : Int) < (N : Int) := by omega
      go_wp2
      go_roundw
      case rel =>
        refine ⟨k + 1, by omega, by go_num, Lib.hid ?_, Lib.hid (HB1.out.setCell (Nat.le_refl _) _)⟩
        have := (World.ownsRow.stored HO1.out k (.int .u8 32)).1
        rw [fil_set hlt] at this
        exact this
      case measure => simp [RowKit.intOf]; omega
    · obtain rfl : k = N := by omega
      have hd0 : decide ((k : Int) < (k : Int)) = false := decide_eq_false (by omega)
      cases v
      · by_cases hbig : 65536 < k
        · have hlen : (List.replicate k 32 : Wd).length = k := by simp
          have hle : (⟨⟨List.replicate k 32⟩⟩ : ByteArray).size = k := hlen
          have hcv := bb_conv wr HO1.out (fil_len (Nat.le_refl k))
          rw [fil_all] at hcv
          have HB2 := HB1
          have hgt : (65536 : Int) < (k : Int) := by omega
          have HX := Lib.hid (fun W => scn_bad (⟨⟨List.replicate k 32⟩⟩ : ByteArray) W (by rw [hle]; unfold maxLen; omega) (m := k) (n := 5) (p := 0) (by have h5 := scnP_big (r := List.replicate k 32) (by rw [hlen]; omega); rw [hlen] at h5; exact h5) (by rw [hle]; omega))
          generalize (⟨⟨List.replicate k 32⟩⟩ : ByteArray) = S at hcv HX hle
          clear hlen hle
          clear HO1 HB1 hd0
          go_wp2_with (first
            | (go_at_call 10; (with_reducible refine (HX.out _).mono ?_); rintro e w2 ⟨rfl, hb2⟩; have HB3 := Lib.hid (HB2.out.trans (hb2.mono HB2.out.size)); clear hb2)
            | (go_at_call 9; (with_reducible refine (awake_any _).mono ?_); rintro e w4 ⟨rfl, hb4⟩; have HB4 := Lib.hid (HB3.out.trans (hb4.mono HB3.out.size)); clear hb4))
          go_ret
          exact ⟨rfl, HB4.out⟩
        · have hlen : (List.replicate k 32 : Wd).length = k := by simp
          have hle : (⟨⟨List.replicate k 32⟩⟩ : ByteArray).size = k := hlen
          have hcv := bb_conv wr HO1.out (fil_len (Nat.le_refl k))
          rw [fil_all] at hcv
          have HB2 := HB1
          have hgt : (k : Int) ≤ 65536 := by omega
          have HX : Hid (∀ W, Calls Tryd.prog 10 #[.string ⟨⟨List.replicate k 32⟩⟩] W fun e w' => ∃ (A : Option Addr) (c : Nat), e = .returned (.tuple #[.slice A 1 c, .int .i64 0, .int .i64 0]) ∧ 1 ≤ c ∧ c ≤ maxLen ∧ TokR w' A k [⟨0, 0, []⟩] ∧ Below W.heap.size W w') := Lib.hid (fun W => by
            have h5 := scn_good (⟨⟨List.replicate k 32⟩⟩ : ByteArray) W (by rw [hle]; unfold maxLen; omega) (D := [⟨0, 0, []⟩]) (n := 1) (by show scnP (List.replicate k 32) = _; rw [scnP_small (by rw [hlen]; omega)]; exact scn_blanks k) rfl
            rw [hle] at h5
            exact h5)
          generalize (⟨⟨List.replicate k 32⟩⟩ : ByteArray) = S at hcv HX hle
          clear hlen hle
          clear HO1 HB1 hd0
          go_wp2_with (first
            | (go_at_call 10; (with_reducible refine (HX.out _).mono ?_); rintro e w2 ⟨A, c, rfl, hc2, hm2, hT, hb2⟩; have HB3 := Lib.hid (HB2.out.trans (hb2.mono HB2.out.size)); clear hb2; obtain ⟨b, rfl, hbl, a0, a1, a2, a3⟩ := hT 0 (by decide); have A2 : w2.cell? ⟨b, 2, none⟩ = some (.int .i64 k) := a2; clear a0 a1 a2 a3 hT hbl)
            | (go_at_call 9; (with_reducible refine (awake_any _).mono ?_); rintro e w4 ⟨rfl, hb4⟩; have HB4 := Lib.hid (HB3.out.trans (hb4.mono HB3.out.size)); clear hb4))
          go_ret
          exact ⟨rfl, HB4.out⟩
      · by_cases hbig : 65536 < k
        · have hlen : (List.replicate (k - 1) 32 ++ [97] : Wd).length = k := by simp; omega
          have hle : (⟨⟨List.replicate (k - 1) 32 ++ [97]⟩⟩ : ByteArray).size = k := hlen
          have hst := (World.ownsRow.stored HO1.out (k - 1) (.int .u8 97)).1
          rw [fil_last (by omega)] at hst
          have hcv := bb_conv _ hst hlen
          have hf := World.ownsRow.frozenAt HO1.out (k - 1)
          have hc := World.ownsRow.cellAt HO1.out (k - 1) (by omega)
          rw [show (bb (fil k k))[k - 1]? = some (.int .u8 32) by rw [fil_all]; unfold bb; rw [List.getElem?_map, List.getElem?_replicate, if_pos (by omega)]; rfl] at hc
          have HB2 := Lib.hid (HB1.out.setCell (p := ⟨w.heap.size, k - 1, none⟩) (Nat.le_refl _) (.int .u8 97))
          have hk1 : (1 : Int) ≤ (k : Int) := by omega
          have hkk : (0 : Int) ≤ (k : Int) - 1 := by omega
          have hkt : ((k : Int) - 1).toNat = k - 1 := by omega
          clear hst
          have hgt : (65536 : Int) < (k : Int) := by omega
          have HX := Lib.hid (fun W => scn_bad (⟨⟨List.replicate (k - 1) 32 ++ [97]⟩⟩ : ByteArray) W (by rw [hle]; unfold maxLen; omega) (m := k) (n := 5) (p := 0) (by have h5 := scnP_big (r := List.replicate (k - 1) 32 ++ [97]) (by rw [hlen]; omega); rw [hlen] at h5; exact h5) (by rw [hle]; omega))
          generalize (⟨⟨List.replicate (k - 1) 32 ++ [97]⟩⟩ : ByteArray) = S at hcv HX hle
          clear hlen hle
          clear HO1 HB1 hd0
          go_wp2_with (first
            | (go_at_call 10; (with_reducible refine (HX.out _).mono ?_); rintro e w2 ⟨rfl, hb2⟩; have HB3 := Lib.hid (HB2.out.trans (hb2.mono HB2.out.size)); clear hb2)
            | (go_at_call 9; (with_reducible refine (awake_any _).mono ?_); rintro e w4 ⟨rfl, hb4⟩; have HB4 := Lib.hid (HB3.out.trans (hb4.mono HB3.out.size)); clear hb4))
          go_ret
          exact ⟨rfl, HB4.out⟩
        · have hlen : (List.replicate (k - 1) 32 ++ [97] : Wd).length = k := by simp; omega
          have hle : (⟨⟨List.replicate (k - 1) 32 ++ [97]⟩⟩ : ByteArray).size = k := hlen
          have hst := (World.ownsRow.stored HO1.out (k - 1) (.int .u8 97)).1
          rw [fil_last (by omega)] at hst
          have hcv := bb_conv _ hst hlen
          have hf := World.ownsRow.frozenAt HO1.out (k - 1)
          have hc := World.ownsRow.cellAt HO1.out (k - 1) (by omega)
          rw [show (bb (fil k k))[k - 1]? = some (.int .u8 32) by rw [fil_all]; unfold bb; rw [List.getElem?_map, List.getElem?_replicate, if_pos (by omega)]; rfl] at hc
          have HB2 := Lib.hid (HB1.out.setCell (p := ⟨w.heap.size, k - 1, none⟩) (Nat.le_refl _) (.int .u8 97))
          have hk1 : (1 : Int) ≤ (k : Int) := by omega
          have hkk : (0 : Int) ≤ (k : Int) - 1 := by omega
          have hkt : ((k : Int) - 1).toNat = k - 1 := by omega
          clear hst
          have hgt : (k : Int) ≤ 65536 := by omega
          have HX : Hid (∀ W, Calls Tryd.prog 10 #[.string ⟨⟨List.replicate (k - 1) 32 ++ [97]⟩⟩] W fun e w' => ∃ (A : Option Addr) (c : Nat), e = .returned (.tuple #[.slice A 2 c, .int .i64 0, .int .i64 0]) ∧ 2 ≤ c ∧ c ≤ maxLen ∧ TokR w' A k [⟨1, 1, [97]⟩, ⟨0, 0, []⟩] ∧ Below W.heap.size W w') := Lib.hid (fun W => by
            have h5 := scn_good (⟨⟨List.replicate (k - 1) 32 ++ [97]⟩⟩ : ByteArray) W (by rw [hle]; unfold maxLen; omega) (D := [⟨1, 1, [97]⟩, ⟨0, 0, []⟩]) (n := 2) (by show scnP (List.replicate (k - 1) 32 ++ [97]) = _; rw [scnP_small (by rw [hlen]; omega)]; exact scn_word (k - 1)) rfl
            rw [hle] at h5
            exact h5)
          generalize (⟨⟨List.replicate (k - 1) 32 ++ [97]⟩⟩ : ByteArray) = S at hcv HX hle
          clear hlen hle
          clear HO1 HB1 hd0
          go_wp2_with (first
            | (go_at_call 10; (with_reducible refine (HX.out _).mono ?_); rintro e w2 ⟨A, c, rfl, hc2, hm2, hT, hb2⟩; have HB3 := Lib.hid (HB2.out.trans (hb2.mono HB2.out.size)); clear hb2; obtain ⟨b, rfl, hbl, a0, a1, a2, a3⟩ := hT 1 (by decide); have A2 : w2.cell? ⟨b, 6, none⟩ = some (.int .i64 k) := a2; clear a0 a1 a2 a3 hT hbl)
            | (go_at_call 9; (with_reducible refine (awake_any _).mono ?_); rintro e w4 ⟨rfl, hb4⟩; have HB4 := Lib.hid (HB3.out.trans (hb4.mono HB3.out.size)); clear hb4))
          go_ret
          exact ⟨rfl, HB4.out⟩
end Go.Proofs.YtkdimbpmgngajaaDoor
