/- Walks: the number of a date's day, in the program and in the reference. -/
import Derived.Test.YtigohhliblgdhaaDoorCalV
import Derived.Deep.RegionHeld3
import Derived.Deep.QuietTactic
import Derived.BigQuiet
import Derived.LoopTactic
import Derived.IntWalk
namespace Go.Proofs.YtigohhliblgdhaaDoor
open Go.RowKit

/-- The number of a date's day, and the error. -/
def dayV (y m d : Int) : Int := if okD y m d then dayI y m d else 0
def dayE (y m d : Int) : Int := if okD y m d then 0 else 6
theorem day_good {y m d : Int} (h : okD y m d = true) : dayV y m d = dayI y m d ∧ dayE y m d = 0 := by simp [dayV, dayE, h]
theorem day_bad {y m d : Int} (h : okD y m d = false) : dayV y m d = 0 ∧ dayE y m d = 6 := by simp [dayV, dayE, h]
theorem okD_no {y m d : Int} (h : okD y m d = false) : d < 1 ∨ (¬ d < 1 ∧ lenI y m < d) := by
  have : ¬ (1 ≤ d ∧ d ≤ lenI y m) := fun h2 => by rw [okD_iff.2 h2] at h; cases h
  omega

/-- A new block, a draw, and what follows. -/
theorem new_drew {w w1 : World} {o : Obj} (h : Below (w.alloc o).drew.heap.size (w.alloc o).drew w1) : Below w.heap.size w w1 :=
  Below.trans (below_drewN ((Below.refl _ w).alloc (Nat.le_refl _) o) 1) (h.mono (by show w.heap.size ≤ (w.alloc o).heap.size; simp))
set_option maxHeartbeats 2000000 in
theorem day_out (y m d : Int) (w : World) (h : okD y m d = false) :
    Calls Tryd.prog 9 #[.agg #[.int .i64 y, .int .i64 m, .int .i64 d]] w fun e w' => e = .returned (.tuple #[.int .i64 (dayV y m d), .int .i64 (dayE y m d)]) ∧ Below w.heap.size w w' := by
  have HF := Lib.hid (day_bad h)
  rcases okD_no h with h1 | ⟨h1, h2⟩
  · have h1' : decide (d < 1) = true := by simpa using h1
    clear h
    go_enter Tryd.func9, Tryd.ntmps9
    go_wp2
    go_quiet (fail)
    go_wp2
    go_ret2
    exact ⟨ret_ints HF.out.1.symm HF.out.2.symm, below_drewN ((Below.refl _ _).alloc (Nat.le_refl _) _) _⟩
  · have HL := Lib.hid (fun w => length_any y m w)
    generalize lenI y m = l at h2 HL
    have h1' : decide (d < 1) = false := by simpa using h1
    clear h
    go_enter Tryd.func9, Tryd.ntmps9
    go_wp2
    go_region_held3 (fun w' => w'.cell? ⟨w.heap.size, 0, none⟩ = some (.int .i64 y) ∧ w'.cell? ⟨w.heap.size, 1, none⟩ = some (.int .i64 m) ∧ w'.cell? ⟨w.heap.size, 2, none⟩ = some (.int .i64 d)) (go_keep)
      (first | (go_at_call 11; refine (HL.out _).mono ?_; rintro e w1 ⟨rfl, hb1⟩; obtain ⟨hc1, hf1⟩ := bcell hb1))
    have hb2 : Below w.heap.size w w1 := new_drew hb1
    clear hb1 hc1 hf1
    go_wp2
    go_ret2
    exact ⟨ret_ints HF.out.1.symm HF.out.2.symm, hb2⟩
/-- A date that lies in memory. -/
def Dat (w : World) (g : Nat) (y m d : Int) : Prop := g < w.heap.size ∧ w.cell? ⟨g, 0, none⟩ = some (.int .i64 y) ∧ w.cell? ⟨g, 1, none⟩ = some (.int .i64 m) ∧ w.cell? ⟨g, 2, none⟩ = some (.int .i64 d)
theorem Dat.below {w w1 : World} {g : Nat} {y m d : Int} (h : Dat w g y m d) (hb : Below w.heap.size w w1) : Dat w1 g y m d := by
  obtain ⟨h0, h1, h2, h3⟩ := h
  obtain ⟨hc, _⟩ := bcell hb
  exact ⟨Nat.lt_of_lt_of_le h0 hb.size, by rw [hc _ _ h0]; exact h1, by rw [hc _ _ h0]; exact h2, by rw [hc _ _ h0]; exact h3⟩
theorem Dat.drew {w : World} {g : Nat} {y m d : Int} (h : Dat w g y m d) : Dat w.drew g y m d := h
theorem Dat.new (w : World) (y m d : Int) : Dat (w.alloc (.cells #[.int .i64 y, .int .i64 m, .int .i64 d] 23)) w.heap.size y m d := by
  have hc := fun i => cell_of_row _ w.heap.size i _ _ (0, 0) (heap_alloc_new w (.cells #[.int .i64 y, .int .i64 m, .int .i64 d] 23))
  exact ⟨by simp, hc 0, hc 1, hc 2⟩
set_option maxHeartbeats 4000000 in
theorem day_in (y m d : Int) (w : World) (h : okD y m d = true) :
    Calls Tryd.prog 9 #[.agg #[.int .i64 y, .int .i64 m, .int .i64 d]] w fun e w' => e = .returned (.tuple #[.int .i64 (dayV y m d), .int .i64 (dayE y m d)]) ∧ Below w.heap.size w w' := by
  have HF := Lib.hid (day_good h)
  obtain ⟨hy, hy2, hm, hm2⟩ := okM_iff.1 (okM_of h)
  obtain ⟨hd, hd2⟩ := okD_iff.1 h
  have hl31 := (len_bd y m).2
  have HL := Lib.hid (fun w => length_any y m w)
  have HN := Lib.hid (fun w => newYear_any y w hy (by omega))
  have ny := nyr_bd y hy (by omega)
  have HD := Lib.hid (Dat.new w y m d)
  have HV : Hid (dayI y m d = nyr y + cum y (m - 1).toNat + d - 1) := rfl
  obtain ⟨l, hl⟩ : ∃ l, lenI y m = l := ⟨_, rfl⟩
  rw [hl] at HL hd2 hl31
  obtain ⟨N, hN⟩ : ∃ N, nyr y = N := ⟨_, rfl⟩
  rw [hN] at HN ny HV
  have hd1 : decide (d < 1) = false := decide_eq_false (by omega)
  have hd3 : ¬ l < d := by omega
  clear h hl hN
  go_enter Tryd.func9, Tryd.ntmps9
  go_wp2
  go_region_held3 (fun w' => w'.cell? ⟨w.heap.size, 0, none⟩ = some (.int .i64 y) ∧ w'.cell? ⟨w.heap.size, 1, none⟩ = some (.int .i64 m) ∧ w'.cell? ⟨w.heap.size, 2, none⟩ = some (.int .i64 d)) (go_keep)
    (first | (go_at_call 11; refine (HL.out _).mono ?_; rintro e w1 ⟨rfl, hb1⟩; obtain ⟨hc1, hf1⟩ := bcell hb1))
  have hb2 : Below w.heap.size w w1 := new_drew hb1
  have hD1 : Dat w1 w.heap.size y m d := HD.out.drew.below hb1
  clear hb1 hc1 hf1
  obtain ⟨hg, hc0, hc1, hc2⟩ := hD1
  have wr1 : IntKind.i64.wrap (N + d) = N + d := IntWalk.i64_in _ (by omega)
  have wr2 : IntKind.i64.wrap (N + d - 1) = N + d - 1 := IntWalk.i64_in _ (by omega)
  go_wp2
  go_region_held3 (fun w' => w'.cell? ⟨w.heap.size, 0, none⟩ = some (.int .i64 y) ∧ w'.cell? ⟨w.heap.size, 2, none⟩ = some (.int .i64 d)) (go_keep)
    (first | (go_at_call 28; refine (HN.out _).mono ?_; rintro e w1 ⟨rfl, rfl⟩))
  clear wr1 wr2
  go_wp2
  go_loopw [4, 5] (fun v i wr => ∃ k : Nat, (k : Int) + 1 ≤ m ∧ i = .int .i64 ((k : Int) + 1) ∧ v = .int .i64 (N + d - 1 + cum y k) ∧ Below w.heap.size w wr ∧ Dat wr w.heap.size y m d) (fun _ i _ => (m - intOf i).toNat)
  case atStart => exact ⟨0, by omega, by simp, by simp [cum], below_drewN hb2 1, hg, hc0, hc1, hc2⟩
  case round =>
    clear hg hc0 hc1 hc2 hb2
    obtain ⟨k, hk, rfl, rfl, hb, hD⟩ := hrel
    have cb := cum_le y k
    have cs := cum_step y k
    have lb := len_bd y ((k : Int) + 1)
    have HK := Lib.hid (fun w => length_any y ((k : Int) + 1) w)
    obtain ⟨l2, hl2⟩ : ∃ l2, lenI y ((k : Int) + 1) = l2 := ⟨_, rfl⟩
    rw [hl2] at cs lb HK
    obtain ⟨c, hc⟩ : ∃ c, cum y k = c := ⟨_, rfl⟩
    rw [hc] at cs cb ⊢
    have HC := Lib.hid hc; have HS := Lib.hid cs; have HDD := Lib.hid hD
    clear hl2 hc cs
    obtain ⟨hg, hc0, hc1, hc2⟩ := hD
    by_cases hlt : (k : Int) + 1 < m
    · go_wp2_with (go_at_call 11; refine (HK.out _).mono ?_; rintro e w2 ⟨rfl, hb3⟩)
      go_roundw
      case rel => exact ⟨k + 1, by omega, by go_num, by rw [HS.out]; go_num, hb.trans (hb3.mono hb.size), HDD.out.below hb3⟩
      case measure => simp [intOf]; omega
    · have hkm : (m - 1).toNat = k := by omega
      have HM := Lib.hid hkm; clear hkm
      go_wp2
      go_ret2
      refine ⟨ret_ints ?_ HF.out.2.symm, hb⟩
      rw [HF.out.1, HV.out, HM.out, HC.out]; omega
theorem day_any (y m d : Int) (w : World) :
    Calls Tryd.prog 9 #[.agg #[.int .i64 y, .int .i64 m, .int .i64 d]] w fun e w' => e = .returned (.tuple #[.int .i64 (dayV y m d), .int .i64 (dayE y m d)]) ∧ Below w.heap.size w w' := by
  cases h : okD y m d
  · exact day_out y m d w h
  · exact day_in y m d w h
end Go.Proofs.YtigohhliblgdhaaDoor
