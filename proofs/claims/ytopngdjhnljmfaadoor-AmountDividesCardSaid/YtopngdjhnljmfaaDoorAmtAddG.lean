/- Walk: ones are added to the parts with the greatest rests, at whatever length. -/
import Derived.Test.YtopngdjhnljmfaaDoorAmtAddO
import Derived.Test.YtopngdjhnljmfaaDoorStW6
namespace Go.Proofs.YtopngdjhnljmfaaDoor
open Go.RowKit Go.Sort St

theorem below_of_grown {B g : Nat} {a w w' : World} (h : Below B a w) (hb : w.grownBy w' (some g)) (hg : B ≤ g) (hw : B ≤ w.heap.size) : Below B a w' :=
  h.trans ⟨hb.os, hb.tape, hb.output, hb.size, fun k hk => hb.block k (by omega) (fun e => by injection e; omega)⟩
theorem grown_refl (w : World) (g : Option Nat) : w.grownBy w g := ⟨rfl, rfl, rfl, Nat.le_refl _, fun _ _ _ => rfl⟩
/-- The places as numbers. -/
def nats (C : List Int) : List Nat := C.map Int.toNat
theorem nats_length (C : List Int) : (nats C).length = C.length := by simp [nats]
theorem nats_at {r : Int → Int} {n : Nat} {C : List Int} (h : SP r 0 n C) {i : Nat} (hi : i < n) : C.getD i 0 = (((nats C)[i]?.getD 0 : Nat) : Int) ∧ (nats C)[i]?.getD 0 < n := by
  have hl := h.length
  have hm := h.mem (mem_at (l := C) (i := i) (by omega))
  have e : (nats C)[i]?.getD 0 = (C.getD i 0).toNat := by
    simp [nats, List.getD, List.getElem?_map, List.getElem?_eq_getElem (show i < C.length by omega)]
  rw [e]
  omega
theorem sr_of (wr : World) (g n base : Nat) (e : TypeId) (h : wr.ownsRow base e 1 (.slice (some ⟨g, 0, none⟩) n n) n (upTo n n)) : SR wr g (rg 0 n) wr := by
  refine ⟨fun j hj => ?_, grown_refl _ _⟩
  rw [rg_length] at hj
  have hj : j < n := by omega
  have h1 := (World.ownsRow.cellAt h j (by omega)).trans (upTo_all n j hj)
  have h2 := World.ownsRow.frozenAt h j
  have e : (rg 0 n).getD j 0 = (j : Int) := by
    simp [rg, List.getD, List.getElem?_map, List.getElem?_range', hj]
  rw [e]
  exact ⟨h1, h2⟩

set_option maxHeartbeats 4000000 in
theorem addOnes_gen (n m : Nat) (base gp cp br off c : Nat) (r : Int → Int) (ps : List Int) (w : World) (hn : n ≤ 65536) (hm : m ≤ n)
    (hbase : base ≤ gp) (hbr : br ≠ gp) (hbrl : br < w.heap.size) (hps : ∀ x ∈ ps, -4611686018427387904 ≤ x ∧ x ≤ 4611686018427387904) (hpl : ps.length = n)
    (hown : w.ownsRow base 3 1 (.slice (some ⟨gp, 0, none⟩) n cp) n (ps.map (Value.int .i64)))
    (hz : ∀ i : Nat, i < n → w.cell? ⟨br, off + i, none⟩ = some (.int .i64 (r i))) :
    Calls Tryd.prog 19 #[.slice (some ⟨gp, 0, none⟩) n cp, .slice (some ⟨br, off, none⟩) n c, .int .i64 (m : Int)] w fun e w' =>
      e = .returned (.tuple #[]) ∧ ∃ C : List Int, SP r 0 n C ∧ w'.ownsRow base 3 1 (.slice (some ⟨gp, 0, none⟩) n cp) n ((addL ps ((nats C).take m)).map (Value.int .i64)) ∧ Below base w w' := by
  obtain ⟨i0, hi0, hz0, hz1, hz2⟩ := info_parts intInfo
  have hgpl : gp < w.heap.size := by
    obtain ⟨_, h⟩ := hown
    rcases h with ⟨h, _⟩ | ⟨g, _, _, h, _, hh, _⟩
    · cases h
    · cases h
      rcases Nat.lt_or_ge gp w.heap.size with h | h
      · exact h
      · rw [Array.getElem?_eq_none h] at hh; cases hh
  have HZ := Lib.hid hz; clear hz
  have HO := Lib.hid hown; clear hown
  have HPS := Lib.hid hps; clear hps
  have HPL := Lib.hid hpl; clear hpl
  go_enter Tryd.func19, Tryd.ntmps19
  go_wp2_with (at_make; refine wpList_make_full _ rfl _ _ 22 rfl (w.heap.size + 1) 3 i0 (.int .i64 0) 1 Tryd.underlying22 hi0 hz0 hz1 _ _ _ _ n rfl rfl (by omega) (by omega) (by rw [hz2]; omega) (by unfold maxLen; omega) (by simp) ?_; intro w1 hown0 hg0)
  have hmade : (madeCells (Value.int IntKind.i64 0).cells (n * 1)).toList = upTo n 0 := by rw [made_ints]; simp [upTo]
  rw [hmade, show (w.alloc (.cells #[.slice (some ⟨br, off, none⟩) n c] 22)).heap.size = w.heap.size + 1 from by simp] at hown0
  clear hmade
  go_loopw [15] (fun i wr => ∃ j : Nat, j ≤ n ∧ i = .int .i64 j ∧ wr.ownsRow (w.heap.size + 1) 3 1 (.slice (some ⟨w.heap.size + 1, 0, none⟩) n n) n (upTo n j) ∧
      Below (w.heap.size + 1) (w.alloc (.cells #[.slice (some ⟨br, off, none⟩) n c] 22)) wr) (fun i _ => n - (intOf i).toNat)
  case atStart => exact ⟨0, by omega, rfl, hown0, (Below.refl _ _).grown hg0 (by simp) (fun _ h => by cases h)⟩
  case round =>
    obtain ⟨j, hj, rfl, hown, hb⟩ := hrel
    clear hown0 hg0
    have hsz := hb.size
    have hsz' : w.heap.size + 1 ≤ wr.heap.size := by simpa using hsz
    by_cases hlt : j < n
    · have hc := (World.ownsRow.cellAt hown j (by omega)).trans (upTo_at _ _ hlt)
      have hf := World.ownsRow.frozenAt hown j
      have hlt' : (j : Int) < (n : Int) := by omega
      go_wp2
      go_roundw
      case rel =>
        refine ⟨j + 1, by omega, by go_num, ?_, ?_⟩
        · have := (World.ownsRow.stored hown j (.int .i64 (j : Int))).1
          rw [upTo_set _ _ hlt] at this
          exact this
        · exact hb.setCell (by simp) _
      case measure => simp [intOf]; omega
    · obtain rfl : j = n := by omega
      have hgl : w.heap.size + 1 < wr.heap.size := by
        obtain ⟨_, h⟩ := hown
        rcases h with ⟨h, _⟩ | ⟨g, _, _, h, _, hh, _⟩
        · cases h
        · cases h
          rcases Nat.lt_or_ge (w.heap.size + 1) wr.heap.size with h | h
          · exact h
          · rw [Array.getElem?_eq_none h] at hh; cases hh
      have hbox : wr.cell? ⟨w.heap.size, 0, none⟩ = some (.slice (some ⟨br, off, none⟩) j c) := by
        rw [hb.cell (p := ⟨w.heap.size, 0, none⟩) (by simp), cell_of_row _ _ _ _ _ (0, 0) (heap_alloc_new _ _)]
        rfl
      have hbw : Below w.heap.size w wr := ((Below.refl _ w).alloc (Nat.le_refl _) _).trans (hb.mono (by omega))
      have hzr : ∀ i : Nat, i < j → wr.cell? ⟨br, off + i, none⟩ = some (.int .i64 (r i)) := fun i hi => (hbw.cell (p := ⟨br, off + i, none⟩) hbrl).trans (HZ.out i hi)
      have hS := Lib.hid (sorted_any (w.heap.size + 1) w.heap.size j j r wr wr (clo_of _ _ _ _ _ _ r wr hn (by omega) (by omega) (by omega) (by omega) hbox hzr) (sr_of wr _ _ _ _ hown) (by omega))
      have hFin : Hid (∀ (C : List Int) (wq : World), SP r 0 j C → SR wr (w.heap.size + 1) C wq → Below w.heap.size w wq ∧ ∀ i : Nat, i < j → wq.cell? ⟨w.heap.size + 1, i, none⟩ = some (.int .i64 (((nats C)[i]?.getD 0 : Nat) : Int))) :=
        Lib.hid fun C wq h1 h2 => ⟨below_of_grown hbw h2.2 (by omega) (by omega), fun i hi => by rw [h2.cell (by rw [h1.length]; omega), (nats_at h1 hi).1]⟩
      clear hbox hzr hown hb hbw
      go_wp2_with (go_at_call 31; refine hS.out.mono ?_; rintro e wq ⟨rfl, C, h1, h2⟩; obtain ⟨hbq, hatq⟩ := hFin.out C wq h1 h2; have HC := Lib.hid h1; clear h1 h2; have HBQ := Lib.hid hbq; have HAQ := Lib.hid hatq; clear hbq hatq)
      clear hS hFin
      go_loopw [30] (fun i wx => ∃ t : Nat, t ≤ m ∧ i = .int .i64 t ∧ wx.ownsRow base 3 1 (.slice (some ⟨gp, 0, none⟩) j cp) j ((addL ps ((nats C).take t)).map (Value.int .i64)) ∧ Below base w wx ∧
          Hid (∀ i : Nat, i < j → wx.cell? ⟨w.heap.size + 1, i, none⟩ = some (.int .i64 (((nats C)[i]?.getD 0 : Nat) : Int)))) (fun i _ => m - (intOf i).toNat)
      case atStart => exact ⟨0, by omega, rfl, ownsRow_below HO.out HBQ.out, HBQ.out.mono (by omega), HAQ⟩
      case round =>
        obtain ⟨t, ht, rfl, hown, hb, HA⟩ := hrel
        clear HAQ HBQ
        by_cases hlt2 : t < m
        · have hpc := HA.out t (by omega)
          have hsl : (nats C).length = j := by rw [nats_length, HC.out.length]; omega
          have hsa := nats_at HC.out (show t < j by omega)
          have hts := take_step' (nats C) t (by omega)
          have hal := addL_length ((nats C).take t) ps
          have hbd := addL_bounds (-4611686018427387904) 4611686018427387904 ((nats C).take t) ps HPS.out (by omega) (by omega)
          have htl : ((nats C).take t).length = t := by rw [List.length_take]; omega
          obtain ⟨s, hs⟩ : ∃ s, (nats C)[t]?.getD 0 = s := ⟨_, rfl⟩
          rw [hs] at hpc hts
          have hsk : s < j := by rw [← hs]; exact hsa.2
          obtain ⟨p, hp⟩ : ∃ p, (addL ps ((nats C).take t))[s]?.getD 0 = p := ⟨_, rfl⟩
          have hplen : s < (addL ps ((nats C).take t)).length := by rw [hal, HPL.out]; exact hsk
          have hpb : -4611686018427387904 ≤ p ∧ p ≤ 4611686018427387904 + t := by
            have := hbd _ (List.getElem_mem hplen)
            rw [htl] at this
            rw [← hp, List.getElem?_eq_getElem hplen]
            exact this
          have hc2 : wr.cell? ⟨gp, s, none⟩ = some (.int .i64 p) := by
            rw [World.ownsRow.cellAt hown s (by omega), List.getElem?_map, ← hp, List.getElem?_eq_getElem hplen]
            rfl
          have hf2 := World.ownsRow.frozenAt hown s
          have hnb : ∀ i : Nat, (⟨w.heap.size + 1, i, none⟩ : Addr) ≠ ⟨gp, s, none⟩ := fun i h => by
            have := congrArg Addr.block h
            simp at this; omega
          have hs' : (s : Int) < (j : Int) := by omega
          have ht' : (t : Int) < (m : Int) := by omega
          have htj : (t : Int) < (j : Int) := by omega
          have R : (wr.setCell ⟨gp, s, none⟩ (.int .i64 (p + 1))).ownsRow base 3 1 (.slice (some ⟨gp, 0, none⟩) j cp) j ((addL ps ((nats C).take (t + 1))).map (Value.int .i64)) := by
            have := (World.ownsRow.stored hown s (.int .i64 (p + 1))).1
            rw [hts, addL_snoc, hp, List.map_set]
            exact this
          have RB : Below base w (wr.setCell ⟨gp, s, none⟩ (.int .i64 (p + 1))) := hb.setCell hbase _
          have RA : Hid (∀ i : Nat, i < j → (wr.setCell ⟨gp, s, none⟩ (.int .i64 (p + 1))).cell? ⟨w.heap.size + 1, i, none⟩ = some (.int .i64 (((nats C)[i]?.getD 0 : Nat) : Int))) :=
            Lib.hid fun i hi => by rw [World.cell?_setCell_other _ _ _ _ (fun h => hnb i h.symm)]; exact HA.out i hi
          have RH := Lib.hid R
          have RBH := Lib.hid RB
          clear hown hb HA hsl hsa hts hal hbd htl hs hp hplen hnb R RB
          go_wp2
          go_roundw
          case rel => exact ⟨t + 1, by omega, by go_num, RH.out, RBH.out, RA⟩
          case measure => simp [intOf]; omega
        · obtain rfl : t = m := by omega
          go_wp2
          go_end0
          exact ⟨rfl, C, HC.out, hown, hb⟩
end Go.Proofs.YtopngdjhnljmfaaDoor
