/- Walk: the text of an amount in the program. -/
import Derived.Test.YtopngdjhnljmfaaDoorAmtMag
import Derived.Test.YtopngdjhnljmfaaDoorAmtTxtM
import Derived.Deep.QuietTactic
import Derived.BigQuiet
import Derived.Laws.IdiomStrings
import Derived.WalkSmall
namespace Go.Proofs.YtopngdjhnljmfaaDoor
open Go.RowKit

/-- The block of the digits. -/
def DBlk (w : World) (g : Nat) (cs : List Value) : Prop := w.heap[g]? = some (.cells cs.toArray 52 (0, 0))
theorem DBlk.cell {w : World} {g : Nat} {cs : List Value} (h : DBlk w g cs) (i : Nat) : w.cell? ⟨g, i, none⟩ = cs[i]? := by
  rw [cell_of_row w g i _ _ (0, 0) h]; simp
theorem DBlk.frozen {w : World} {g : Nat} {cs : List Value} (h : DBlk w g cs) (i : Nat) : w.frozen? ⟨g, i, none⟩ = false := by
  unfold DBlk at h
  simp [World.frozen?, h]
theorem DBlk.stored {w : World} {g : Nat} {cs : List Value} (h : DBlk w g cs) (i : Nat) (u : Value) : DBlk (w.setCell ⟨g, i, none⟩ u) g (cs.set i u) := by
  unfold DBlk at h ⊢
  simp [World.setCell, Array.getElem?_modify, h]

/-- A part of the row as a string. -/
theorem conv_part (w : World) (g : Nat) (m : Int) (a b : Nat) (c : Nat) (hb : b ≤ 19) (hD : DBlk w g (dgRow m 19)) :
    (convert 53 9 (.slice (some ⟨g, a, none⟩) (b - a) c)).run Tryd.prog w = .ok (.string (S (dgs m a b))) w := by
  have := run_convert_bytes_back (P := Tryd.prog) w 53 9 5 ⟨g, a, none⟩ c (dgs m a b) Tryd.underlying53 Tryd.underlying5 Tryd.underlying9 (fun j hj => by
    rw [dgs_length] at hj
    have ha : (⟨g, a, none⟩ : Addr).add j = ⟨g, a + j, none⟩ := by
      unfold Addr.add
      split
      · rename_i h; subst h; rfl
      · rfl
    have hr := dg_range m (a + j)
    rw [ha, hD.cell, dgRow_all m (a + j) (by omega)]
    simp [dgs, b8_toNat (i := 48 + dg m (a + j)) (by omega) (by omega)])
  rwa [dgs_length] at this
theorem arrLen : Tryd.prog.arrayLen 52 = 19 := by kernel_rfl
theorem arrElem : Tryd.prog.elem 52 = 5 := by kernel_rfl
theorem byteSize (w : World) : (sizeOf 5).run Tryd.prog w = .ok 1 w := by kernel_rfl
theorem slice_arr (w : World) (g f : Nat) (hf : f ≤ 14) :
    (Instr.sliceAt 52 (.pointer (some ⟨g, 0, none⟩)) (some (.int .i64 (f : Int))) (some (.int .i64 15)) none).run Tryd.prog w = .ok (.slice (some ⟨g, f, none⟩) (15 - f) (19 - f)) w := by
  rw [run_sliceAt_array_lh (P := Tryd.prog) w 52 ⟨g, 0, none⟩ (by kernel_rfl) _ _ _ _ (by omega) (by omega) (by rw [arrLen]; decide), arrLen, arrElem, byteSize]
  have e : ((f : Int)).toNat = f := by omega
  simp only [Result.andThen, slicedAt, e]
  rw [if_neg (by omega)]
  unfold Addr.add
  split
  · rename_i h; have : f = 0 := by omega
    subst this; rfl
  · simp
theorem slice_arr2 (w : World) (g : Nat) :
    (Instr.sliceAt 52 (.pointer (some ⟨g, 0, none⟩)) (some (.int .i64 15)) none none).run Tryd.prog w = .ok (.slice (some ⟨g, 15, none⟩) 4 4) w := by
  rw [run_sliceAt_array_l (P := Tryd.prog) w 52 ⟨g, 0, none⟩ (by kernel_rfl) _ _ (by omega) (by rw [arrLen]; decide), arrLen, arrElem, byteSize]
  rfl

set_option maxHeartbeats 2000000 in
theorem text_any (a : Int) (w : World) (h1 : -9223372036854775808 ≤ a) (h2 : a ≤ 9223372036854775807) (hP : Pows w) (hz : 0 < w.heap.size) :
    Calls Tryd.prog 13 #[.int .i64 a] w fun e w' => ∃ f, Lead (mag a) f ∧ e = .returned (.string (S (textL a (mag a) f))) ∧ Below w.heap.size w w' := by
  have hm : 0 ≤ mag a ∧ mag a ≤ 9223372036854775808 := by unfold mag; split <;> omega
  have HP := Lib.hid hP; clear hP
  go_enter Tryd.func13, Tryd.ntmps13
  go_wp2_with (go_at_call 16; refine (magnitude_any _ _ h1 h2).mono ?_; rintro e w1 ⟨rfl, rfl⟩)
  generalize hmm : mag a = m at *
  have HMM := Lib.hid hmm; clear hmm
  go_loopw [10] (fun i wr => ∃ k : Nat, k ≤ 19 ∧ i = .int .i64 k ∧ DBlk wr w.heap.size (dgRow m k) ∧ Below w.heap.size w wr) (fun i _ => 19 - (intOf i).toNat)
  case atStart => exact ⟨0, by omega, rfl, heap_alloc_new _ _, (Below.refl _ _).alloc (Nat.le_refl _) _⟩
  case round =>
    obtain ⟨k, hk, rfl, hD, hb⟩ := hrel
    by_cases hlt : k < 19
    · have hc := (hD.cell k).trans (dgRow_at m k hlt)
      have hf := hD.frozen k
      have hg := (HP.out.below hz hb) (18 - k) (by omega)
      have hpb := pow_pos' (18 - k) (by omega)
      have hdr := dg_range m k
      have hdg : m / (10 : Int) ^ (18 - k) % 10 = dg m k := rfl
      have HD := Lib.hid hD; clear hD
      generalize (10 : Int) ^ (18 - k) = p at *
      have HG := Lib.hid (dg_walk hm.1 hpb.1 hdg hdr); clear hdg
      go_wp2
      go_roundw
      case rel =>
        refine ⟨k + 1, by omega, by go_num, ?_, hb.setCell (Nat.le_refl _) _⟩
        rw [HG.out, ← dgRow_set m k hlt]
        exact HD.out.stored k _
      case measure => simp [intOf]; omega
    · obtain rfl : k = 19 := by omega
      go_wp2
      go_loop [6] (fun i => ∃ f : Nat, f ≤ 14 ∧ i = .int .i64 f ∧ Hid (∀ j, j < f → dg m j = 0)) (fun i => 14 - (intOf i).toNat)
      case atStart => exact ⟨0, by omega, rfl, Lib.hid fun j hj => absurd hj (by omega)⟩
      case round =>
        obtain ⟨f, hf, rfl, HJ⟩ := hrel
        have hc := (hD.cell f).trans (dgRow_all m f (by omega))
        have hdr := dg_range m f
        by_cases hlt2 : f < 14
        · by_cases hd : dg m f = 0
          · have hb1 : ((48 : Int) + dg m f == 48) = true := by simp; omega
            have HD2 := Lib.hid hd; clear hd
            have HB := Lib.hid hD; clear hD
            go_wp2
            go_round
            case rel =>
              refine ⟨f + 1, by omega, by go_num, Lib.hid fun j hj => ?_⟩
              by_cases h : j = f
              · subst h; exact HD2.out
              · exact HJ.out j (by omega)
            case measure => simp [intOf]; omega
          · have hb1 : ((48 : Int) + dg m f == 48) = false := by simp; omega
            have HL : Hid (Lead m f) := Lib.hid ⟨by omega, HJ.out, fun _ => hd⟩
            have HB := Lib.hid hD; clear hD
            have hs1 : ∀ wx, (Instr.sliceAt 52 (.pointer (some ⟨w.heap.size, 0, none⟩)) (some (.int .i64 (f : Int))) (some (.int .i64 15)) none).run Tryd.prog wx = .ok (.slice (some ⟨w.heap.size, f, none⟩) (15 - f) (19 - f)) wx := fun wx => slice_arr wx _ _ hf
            have hs2 : ∀ wx, (Instr.sliceAt 52 (.pointer (some ⟨w.heap.size, 0, none⟩)) (some (.int .i64 15)) none none).run Tryd.prog wx = .ok (.slice (some ⟨w.heap.size, 15, none⟩) 4 4) wx := fun wx => slice_arr2 wx _
            have hv1 : ∀ nq, (convert 53 9 (.slice (some ⟨w.heap.size, f, none⟩) (15 - f) (19 - f))).run Tryd.prog (wr.drewN nq) = .ok (.string (S (dgs m f 15))) (wr.drewN nq) := fun nq => conv_part _ _ _ _ _ _ (by omega) HB.out
            have hv2 : ∀ nq, (convert 53 9 (.slice (some ⟨w.heap.size, 15, none⟩) 4 4)).run Tryd.prog (wr.drewN nq) = .ok (.string (S (dgs m 15 19))) (wr.drewN nq) := fun nq => conv_part _ _ _ 15 19 4 (by omega) HB.out
            have hl1 := dgs_length m f 15
            have hl2 := dgs_length m 15 19
            have ht : S (textL a m f) = if a < 0 then S ([45] ++ (dgs m f 15 ++ [46] ++ dgs m 15 19)) else S (dgs m f 15 ++ [46] ++ dgs m 15 19) := by
              unfold textL; split <;> simp
            have HT := Lib.hid ht; clear ht
            generalize dgs m f 15 = x at *
            generalize dgs m 15 19 = y at *
            have ha1 : ∀ wx, (Op.stringOp .add (S x) ⟨#[46]⟩).run Tryd.prog wx = .ok (.string (S (x ++ [46]))) wx := fun wx => by
              rw [run_string_add_sum wx _ _ (by rw [S_size]; show _ + 1 ≤ _; omega), show (⟨#[46]⟩ : ByteArray) = S [46] from rfl, S_append]
            have ha2 : ∀ wx, (Op.stringOp .add (S (x ++ [46])) (S y)).run Tryd.prog wx = .ok (.string (S (x ++ [46] ++ y))) wx := fun wx => by
              rw [run_string_add_sum wx _ _ (by rw [S_size, S_size, List.length_append]; show _ + 1 + _ ≤ _; omega), S_append]
            have ha3 : ∀ wx, (Op.stringOp .add ⟨#[45]⟩ (S (x ++ [46] ++ y))).run Tryd.prog wx = .ok (.string (S ([45] ++ (x ++ [46] ++ y)))) wx := fun wx => by
              rw [run_string_add_sum wx _ _ (by rw [S_size, List.length_append, List.length_append]; show 1 + (_ + 1 + _) ≤ _; omega), show (⟨#[45]⟩ : ByteArray) = S [45] from rfl, S_append]
            obtain ⟨u, hu⟩ : ∃ u, S (x ++ [46] ++ y) = u := ⟨_, rfl⟩
            obtain ⟨t, htt⟩ : ∃ t, S (x ++ [46]) = t := ⟨_, rfl⟩
            obtain ⟨v, hvv⟩ : ∃ v, S ([45] ++ (x ++ [46] ++ y)) = v := ⟨_, rfl⟩
            rw [htt] at ha1 ha2
            rw [hu] at ha2 ha3
            rw [hvv] at ha3
            have HU := Lib.hid hu
            have HV := Lib.hid hvv
            clear hu htt hvv hl1 hl2
            go_wp2
            go_quiet (fail)
            by_cases hneg : a < 0
            · go_wp2
              go_ret
              exact ⟨f, by rw [HMM.out]; exact HL.out, ret_str (by rw [HMM.out, HT.out, if_pos (by omega), HV.out]), below_drewN hb _⟩
            · go_wp2
              go_ret
              exact ⟨f, by rw [HMM.out]; exact HL.out, ret_str (by rw [HMM.out, HT.out, if_neg (by omega), HU.out]), below_drewN hb _⟩
        · obtain rfl : f = 14 := by omega
          have HL : Hid (Lead m 14) := Lib.hid ⟨by omega, HJ.out, fun h => absurd h (by omega)⟩
          have HB := Lib.hid hD; clear hD
          have hs1 : ∀ wx, (Instr.sliceAt 52 (.pointer (some ⟨w.heap.size, 0, none⟩)) (some (.int .i64 14)) (some (.int .i64 15)) none).run Tryd.prog wx = .ok (.slice (some ⟨w.heap.size, 14, none⟩) 1 5) wx := fun wx => slice_arr wx _ 14 (by omega)
          have hs2 : ∀ wx, (Instr.sliceAt 52 (.pointer (some ⟨w.heap.size, 0, none⟩)) (some (.int .i64 15)) none none).run Tryd.prog wx = .ok (.slice (some ⟨w.heap.size, 15, none⟩) 4 4) wx := fun wx => slice_arr2 wx _
          have hv1 : ∀ nq, (convert 53 9 (.slice (some ⟨w.heap.size, 14, none⟩) 1 5)).run Tryd.prog (wr.drewN nq) = .ok (.string (S (dgs m 14 15))) (wr.drewN nq) := fun nq => conv_part _ _ _ 14 15 5 (by omega) HB.out
          have hv2 : ∀ nq, (convert 53 9 (.slice (some ⟨w.heap.size, 15, none⟩) 4 4)).run Tryd.prog (wr.drewN nq) = .ok (.string (S (dgs m 15 19))) (wr.drewN nq) := fun nq => conv_part _ _ _ 15 19 4 (by omega) HB.out
          have hl1 := dgs_length m 14 15
          have hl2 := dgs_length m 15 19
          have ht : S (textL a m 14) = if a < 0 then S ([45] ++ (dgs m 14 15 ++ [46] ++ dgs m 15 19)) else S (dgs m 14 15 ++ [46] ++ dgs m 15 19) := by
            unfold textL; split <;> simp
          have HT := Lib.hid ht; clear ht
          generalize dgs m 14 15 = x at *
          generalize dgs m 15 19 = y at *
          have ha1 : ∀ wx, (Op.stringOp .add (S x) ⟨#[46]⟩).run Tryd.prog wx = .ok (.string (S (x ++ [46]))) wx := fun wx => by
            rw [run_string_add_sum wx _ _ (by rw [S_size]; show _ + 1 ≤ _; omega), show (⟨#[46]⟩ : ByteArray) = S [46] from rfl, S_append]
          have ha2 : ∀ wx, (Op.stringOp .add (S (x ++ [46])) (S y)).run Tryd.prog wx = .ok (.string (S (x ++ [46] ++ y))) wx := fun wx => by
            rw [run_string_add_sum wx _ _ (by rw [S_size, S_size, List.length_append]; show _ + 1 + _ ≤ _; omega), S_append]
          have ha3 : ∀ wx, (Op.stringOp .add ⟨#[45]⟩ (S (x ++ [46] ++ y))).run Tryd.prog wx = .ok (.string (S ([45] ++ (x ++ [46] ++ y)))) wx := fun wx => by
            rw [run_string_add_sum wx _ _ (by rw [S_size, List.length_append, List.length_append]; show 1 + (_ + 1 + _) ≤ _; omega), show (⟨#[45]⟩ : ByteArray) = S [45] from rfl, S_append]
          obtain ⟨u, hu⟩ : ∃ u, S (x ++ [46] ++ y) = u := ⟨_, rfl⟩
          obtain ⟨t, htt⟩ : ∃ t, S (x ++ [46]) = t := ⟨_, rfl⟩
          obtain ⟨v, hvv⟩ : ∃ v, S ([45] ++ (x ++ [46] ++ y)) = v := ⟨_, rfl⟩
          rw [htt] at ha1 ha2
          rw [hu] at ha2 ha3
          rw [hvv] at ha3
          have HU := Lib.hid hu
          have HV := Lib.hid hvv
          clear hu htt hvv hl1 hl2
          go_wp2
          go_quiet (fail)
          by_cases hneg : a < 0
          · go_wp2
            go_ret
            exact ⟨14, by rw [HMM.out]; exact HL.out, ret_str (by rw [HMM.out, HT.out, if_pos (by omega), HV.out]), below_drewN hb _⟩
          · go_wp2
            go_ret
            exact ⟨14, by rw [HMM.out]; exact HL.out, ret_str (by rw [HMM.out, HT.out, if_neg (by omega), HU.out]), below_drewN hb _⟩
end Go.Proofs.YtopngdjhnljmfaaDoor
