/- Walk: ones are added to the parts with the greatest rests (at most nineteen parts). -/
import Derived.Test.YtopngdjhnljmfaaDoorAmtAddM
import Derived.Below
namespace Go.Proofs.YtopngdjhnljmfaaDoor
open Go.RowKit Go.Sort

theorem intInfo : (Tryd.prog.info? 3).map (fun i => (i.zero, i.size, i.bytes)) = some (some (.int .i64 0), 1, 8) := by kernel_rfl
theorem made_ints (m : Nat) : (madeCells (Value.int IntKind.i64 0).cells (m * 1)).toList = List.replicate m (Value.int IntKind.i64 0) := by
  rw [Nat.mul_one]
  apply List.ext_getElem
  · simp [madeCells]
  · intro i h1 h2
    simp [madeCells, Value.cells, Nat.mod_one]
/-- A row of n positions of which the first k are laid. -/
def upTo (n k : Nat) : List Value := (List.range k).map (fun i : Nat => Value.int .i64 (i : Int)) ++ List.replicate (n - k) (Value.int .i64 0)
theorem upTo_at (n k : Nat) (h : k < n) : (upTo n k)[k]? = some (Value.int .i64 0) := by
  unfold upTo
  rw [List.getElem?_append_right (by simp)]
  simp [List.getElem?_replicate]; omega
theorem upTo_set (n k : Nat) (h : k < n) : (upTo n k).set k (Value.int .i64 (k : Int)) = upTo n (k + 1) := by
  unfold upTo
  rw [List.set_append_right _ _ (by simp)]
  have e : n - k = (n - (k + 1)) + 1 := by omega
  rw [e, List.length_map, List.length_range, Nat.sub_self, List.replicate_succ, List.set_cons_zero, List.range_succ, List.map_append, List.append_assoc]
  rfl
theorem upTo_all (n i : Nat) (h : i < n) : (upTo n n)[i]? = some (Value.int .i64 (i : Int)) := by
  simp [upTo, List.getElem?_map, List.getElem?_range h]

theorem below_putRow {α : Type} [Inhabited α] {B : Nat} {a w : World} (h : Below B a w) (enc : α → Value) (g off : Nat) (d : Array α) (hg : B ≤ g) : Below B a (putRow enc w g off d) :=
  h.trans ⟨rfl, rfl, rfl, by simp, fun k hk => by
    unfold putRow mapBlock
    simp only [Array.getElem?_modify]
    rw [if_neg (by omega)]⟩

theorem ownsRow_below {w w' : World} {base : Nat} {e : TypeId} {size : Nat} {v : Value} {n : Nat} {xs : List Value} (h : w.ownsRow base e size v n xs) (hb : Below w.heap.size w w') : w'.ownsRow base e size v n xs := by
  refine ⟨h.1, ?_⟩
  rcases h.2 with h | ⟨g, cap, cur, e1, hg, hh, r⟩
  · exact .inl h
  · have hlt : g < w.heap.size := by
      rcases Nat.lt_or_ge g w.heap.size with h | h
      · exact h
      · rw [Array.getElem?_eq_none h] at hh; cases hh
    exact .inr ⟨g, cap, cur, e1, hg, (hb.block g hlt).trans hh, r⟩
theorem take_step' (σ : List Nat) (t : Nat) (h : t < σ.length) : σ.take (t + 1) = σ.take t ++ [σ[t]?.getD 0] := by
  rw [List.take_succ_eq_append_getElem h, List.getElem?_eq_getElem h]; rfl

set_option maxHeartbeats 4000000 in
theorem addOnes_any (k m : Nat) (base gp cp br off c : Nat) (ps zs : List Int) (w : World) (h19 : k + 1 ≤ 19) (hm : m ≤ k + 1)
    (hbase : base ≤ gp) (hbr : br ≠ gp) (hbrl : br < w.heap.size) (hps : ∀ x ∈ ps, -4611686018427387904 ≤ x ∧ x ≤ 4611686018427387904) (hpl : ps.length = k + 1)
    (hown : w.ownsRow base 3 1 (.slice (some ⟨gp, 0, none⟩) (k + 1) cp) (k + 1) (ps.map (Value.int .i64)))
    (hz : ∀ i, i < k + 1 → w.cell? ⟨br, off + i, none⟩ = some (.int .i64 (zs[i]?.getD 0))) :
    Calls Tryd.prog 19 #[.slice (some ⟨gp, 0, none⟩) (k + 1) cp, .slice (some ⟨br, off, none⟩) (k + 1) c, .int .i64 (m : Int)] w fun e w' =>
      e = .returned (.tuple #[]) ∧ w'.ownsRow base 3 1 (.slice (some ⟨gp, 0, none⟩) (k + 1) cp) (k + 1) ((addL ps ((sig k zs).take m)).map (Value.int .i64)) ∧ Below base w w' := by
  obtain ⟨i0, hi0, hz0, hz1, hz2⟩ := info_parts intInfo
  have hgpl : gp < w.heap.size := by
    obtain ⟨_, h⟩ := hown
    rcases h with ⟨h, _⟩ | ⟨g, _, _, h, _, hh, _⟩
    · cases h
    · cases h
      rcases Nat.lt_or_ge gp w.heap.size with h | h
      · exact h
      · rw [Array.getElem?_eq_none h] at hh; cases hh
  have HZ := Lib.hid hz; clear hz
  have HO := Lib.hid hown; clear hown
  have HPS := Lib.hid hps; clear hps
  have HPL := Lib.hid hpl; clear hpl
  go_enter Tryd.func19, Tryd.ntmps19
  go_wp2_with (at_make; refine wpList_make_full _ rfl _ _ 22 rfl (w.heap.size + 1) 3 i0 (.int .i64 0) 1 Tryd.underlying22 hi0 hz0 hz1 _ _ _ _ (k + 1) rfl rfl (by omega) (by omega) (by rw [hz2]; omega) (by unfold maxLen; omega) (by simp) ?_; intro w1 hown0 hg0)
  have hmade : (madeCells (Value.int IntKind.i64 0).cells ((k + 1) * 1)).toList = upTo (k + 1) 0 := by rw [made_ints]; simp [upTo]
  rw [hmade, show (w.alloc (.cells #[.slice (some ⟨br, off, none⟩) (k + 1) c] 22)).heap.size = w.heap.size + 1 from by simp] at hown0
  clear hmade
  go_loopw [15] (fun i wr => ∃ j : Nat, j ≤ k + 1 ∧ i = .int .i64 j ∧ wr.ownsRow (w.heap.size + 1) 3 1 (.slice (some ⟨w.heap.size + 1, 0, none⟩) (k + 1) (k + 1)) (k + 1) (upTo (k + 1) j) ∧
      Below (w.heap.size + 1) (w.alloc (.cells #[.slice (some ⟨br, off, none⟩) (k + 1) c] 22)) wr) (fun i _ => k + 1 - (intOf i).toNat)
  case atStart => exact ⟨0, by omega, rfl, hown0, (Below.refl _ _).grown hg0 (by simp) (fun _ h => by cases h)⟩
  case round =>
    obtain ⟨j, hj, rfl, hown, hb⟩ := hrel
    clear hown0 hg0
    have hsz := hb.size
    have hsz' : w.heap.size + 1 ≤ wr.heap.size := by simpa using hsz
    by_cases hlt : j < k + 1
    · have hc := (World.ownsRow.cellAt hown j (by omega)).trans (upTo_at _ _ hlt)
      have hf := World.ownsRow.frozenAt hown j
      go_wp2
      go_roundw
      case rel =>
        refine ⟨j + 1, by omega, by go_num, ?_, ?_⟩
        · have := (World.ownsRow.stored hown j (.int .i64 (j : Int))).1
          rw [upTo_set _ _ hlt] at this
          exact this
        · exact hb.setCell (by simp) _
      case measure => simp [intOf]; omega
    · obtain rfl : j = k + 1 := by omega
      have hgl : w.heap.size + 1 < wr.heap.size := by
        obtain ⟨_, h⟩ := hown
        rcases h with ⟨h, _⟩ | ⟨g, _, _, h, _, hh, _⟩
        · cases h
        · cases h
          rcases Nat.lt_or_ge (w.heap.size + 1) wr.heap.size with h | h
          · exact h
          · rw [Array.getElem?_eq_none h] at hh; cases hh
      have hbox : wr.cell? ⟨w.heap.size, 0, none⟩ = some (.slice (some ⟨br, off, none⟩) (k + 1) c) := by
        rw [hb.cell (p := ⟨w.heap.size, 0, none⟩) (by simp), cell_of_row _ _ _ _ _ (0, 0) (heap_alloc_new _ _)]
        rfl
      have hbw : Below w.heap.size w wr := ((Below.refl _ w).alloc (Nat.le_refl _) _).trans (hb.mono (by omega))
      have hzr : ∀ i, i < k + 1 → wr.cell? ⟨br, off + i, none⟩ = some (.int .i64 (zs[i]?.getD 0)) := fun i hi => (hbw.cell (p := ⟨br, off + i, none⟩) hbrl).trans (HZ.out i hi)
      have hH : Holds (enF k) wr (w.heap.size + 1) 0 (idF k) := by
        intro i hi
        rw [idF_size] at hi
        refine ⟨?_, World.ownsRow.frozenAt hown _⟩
        rw [World.ownsRow.cellAt hown _ (by omega), Nat.zero_add, upTo_all _ _ hi, getElem!_pos _ i (by rw [idF_size]; exact hi)]
        simp [idF, enF]
      have hS := Lib.hid (sort_any k zs w.heap.size br off (k + 1) c (w.heap.size + 1) (k + 1) wr (Nat.le_refl _) (by omega) h19 hgl (by omega) (by omega) (by omega) (by omega) hbox hzr hH)
      have hbk : Below w.heap.size w (putRow (enF k) wr (w.heap.size + 1) 0 (posF k zs)) := below_putRow hbw _ _ _ _ (by omega)
      have hat : ∀ i, i < k + 1 → (putRow (enF k) wr (w.heap.size + 1) 0 (posF k zs)).cell? ⟨w.heap.size + 1, i, none⟩ = some (.int .i64 (((sig k zs)[i]?.getD 0 : Nat) : Int)) := by
        intro i hi
        have := cell?_putRow (enF k) wr (w.heap.size + 1) 0 (idF k) (posF k zs) hH (by rw [posF_size, idF_size]) i (by rw [posF_size]; exact hi)
        rw [Nat.zero_add] at this
        rw [this, (sig_at k zs i hi).1]
        rfl
      clear hbox hzr hH hown hb hbw
      go_wp2_with (go_at_call 31; refine hS.out.mono ?_; rintro e w2 ⟨rfl, q, rfl⟩)
      have hbq : Below w.heap.size w ((putRow (enF k) wr (w.heap.size + 1) 0 (posF k zs)).drewN q) := below_drewN hbk q
      have hatq : ∀ i, i < k + 1 → ((putRow (enF k) wr (w.heap.size + 1) 0 (posF k zs)).drewN q).cell? ⟨w.heap.size + 1, i, none⟩ = some (.int .i64 (((sig k zs)[i]?.getD 0 : Nat) : Int)) := hat
      clear hat hbk
      generalize (putRow (enF k) wr (w.heap.size + 1) 0 (posF k zs)).drewN q = wq at *
      go_loopw [30] (fun i wx => ∃ t : Nat, t ≤ m ∧ i = .int .i64 t ∧ wx.ownsRow base 3 1 (.slice (some ⟨gp, 0, none⟩) (k + 1) cp) (k + 1) ((addL ps ((sig k zs).take t)).map (Value.int .i64)) ∧ Below base w wx ∧
          Hid (∀ i, i < k + 1 → wx.cell? ⟨w.heap.size + 1, i, none⟩ = some (.int .i64 (((sig k zs)[i]?.getD 0 : Nat) : Int)))) (fun i _ => m - (intOf i).toNat)
      case atStart => exact ⟨0, by omega, rfl, ownsRow_below HO.out hbq, hbq.mono (by omega), Lib.hid hatq⟩
      case round =>
        obtain ⟨t, ht, rfl, hown, hb, HA⟩ := hrel
        clear hatq hbq
        by_cases hlt2 : t < m
        · have hpc := HA.out t (by omega)
          have hsl := sig_length k zs
          have hsa := sig_at k zs t (by omega)
          have hts := take_step' (sig k zs) t (by omega)
          have hal := addL_length ((sig k zs).take t) ps
          have hbd := addL_bounds (-4611686018427387904) 4611686018427387904 ((sig k zs).take t) ps HPS.out (by omega) (by omega)
          have htl : ((sig k zs).take t).length = t := by rw [List.length_take]; omega
          obtain ⟨s, hs⟩ : ∃ s, (sig k zs)[t]?.getD 0 = s := ⟨_, rfl⟩
          rw [hs] at hpc hts
          have hsk : s < k + 1 := by rw [← hs, hsa.1]; exact hsa.2
          obtain ⟨p, hp⟩ : ∃ p, (addL ps ((sig k zs).take t))[s]?.getD 0 = p := ⟨_, rfl⟩
          have hplen : s < (addL ps ((sig k zs).take t)).length := by rw [hal, HPL.out]; exact hsk
          have hpb : -4611686018427387904 ≤ p ∧ p ≤ 4611686018427387904 + t := by
            have := hbd _ (List.getElem_mem hplen)
            rw [htl] at this
            rw [← hp, List.getElem?_eq_getElem hplen]
            exact this
          have hc2 : wr.cell? ⟨gp, s, none⟩ = some (.int .i64 p) := by
            rw [World.ownsRow.cellAt hown s (by omega), List.getElem?_map, ← hp, List.getElem?_eq_getElem hplen]
            rfl
          have hf2 := World.ownsRow.frozenAt hown s
          have hnb : ∀ i : Nat, (⟨w.heap.size + 1, i, none⟩ : Addr) ≠ ⟨gp, s, none⟩ := fun i h => by
            have := congrArg Addr.block h
            simp at this; omega
          have hs' : (s : Int) < (k : Int) + 1 := by omega
          have R : (wr.setCell ⟨gp, s, none⟩ (.int .i64 (p + 1))).ownsRow base 3 1 (.slice (some ⟨gp, 0, none⟩) (k + 1) cp) (k + 1) ((addL ps ((sig k zs).take (t + 1))).map (Value.int .i64)) := by
            have := (World.ownsRow.stored hown s (.int .i64 (p + 1))).1
            rw [hts, addL_snoc, hp, List.map_set]
            exact this
          have RB : Below base w (wr.setCell ⟨gp, s, none⟩ (.int .i64 (p + 1))) := hb.setCell hbase _
          have RA : Hid (∀ i, i < k + 1 → (wr.setCell ⟨gp, s, none⟩ (.int .i64 (p + 1))).cell? ⟨w.heap.size + 1, i, none⟩ = some (.int .i64 (((sig k zs)[i]?.getD 0 : Nat) : Int))) :=
            Lib.hid fun i hi => by rw [World.cell?_setCell_other _ _ _ _ (fun h => hnb i h.symm)]; exact HA.out i hi
          have RH := Lib.hid R
          have RBH := Lib.hid RB
          clear hown hb HA hsl hsa hts hal hbd htl hs hp hplen hnb R RB
          go_wp2
          go_roundw
          case rel => exact ⟨t + 1, by omega, by go_num, RH.out, RBH.out, RA⟩
          case measure => simp [intOf]; omega
        · obtain rfl : t = m := by omega
          go_wp2
          go_end0
          exact ⟨rfl, hown, hb⟩
end Go.Proofs.YtopngdjhnljmfaaDoor
