/- Walks: the reader's kind. -/
import Derived.Test.YtokdfdinnaghmaaDoorTxA
namespace Go.Proofs.YtokdfdinnaghmaaDoor.Tx
open Go Go.Lib Go.RowKit

theorem kb_no : ∀ n : Fin 256, kindW [UInt8.ofNat n.val] = 0 → indexByte [118, 116, 100, 99] (UInt8.ofNat n.val) = -1 := by decide +kernel
theorem kb_yes : ∀ n : Fin 256, kindW [UInt8.ofNat n.val] ≠ 0 → (kindW [UInt8.ofNat n.val] : Int) = indexByte [118, 116, 100, 99] (UInt8.ofNat n.val) + 1 ∧ 0 ≤ indexByte [118, 116, 100, 99] (UInt8.ofNat n.val) ∧ indexByte [118, 116, 100, 99] (UInt8.ofNat n.val) ≤ 3 := by decide +kernel
theorem u8_fin (b : UInt8) : ∃ n : Fin 256, b = UInt8.ofNat n.val := ⟨⟨b.toNat, b.toNat_lt⟩, by simp⟩
theorem one_byte {x : ByteArray} (h : x.data.toList.length = 1) : ∃ b : UInt8, x = ⟨#[b]⟩ := by
  obtain ⟨⟨l⟩⟩ := x
  match l, h with
  | [b], _ => exact ⟨b, rfl⟩
theorem kb_len {l : Wd} (h : kindW l ≠ 0) : l.length = 1 := by
  unfold kindW at h
  split at h
  · rename_i e; rw [e]; rfl
  · split at h
    · rename_i e; rw [e]; rfl
    · split at h
      · rename_i e; rw [e]; rfl
      · split at h
        · rename_i e; rw [e]; rfl
        · exact absurd rfl h
theorem idx_yes {x : ByteArray} {k : Nat} (hk : kindW x.data.toList = k) (h0 : k ≠ 0) (w : World) : Calls Tryd.prog 48 #[.string ⟨#[118, 116, 100, 99]⟩, .string x] w fun e w' => ∃ j : Int, e = .returned (.int .i64 j) ∧ (k : Int) = j + 1 ∧ 0 ≤ j ∧ j ≤ 3 ∧ w' = w := by
  subst hk
  obtain ⟨b, rfl⟩ := one_byte (kb_len h0)
  obtain ⟨n, rfl⟩ := u8_fin b
  obtain ⟨h1, h2, h3⟩ := kb_yes n h0
  exact (Tryd.strings_Index_one ⟨#[118, 116, 100, 99]⟩ _ w).mono fun e w' ⟨a, b⟩ => ⟨_, a, h1, h2, h3, b⟩
theorem idx_no {x : ByteArray} (hk : kindW x.data.toList = 0) (hl : x.data.toList.length = 1) (w : World) : Calls Tryd.prog 48 #[.string ⟨#[118, 116, 100, 99]⟩, .string x] w fun e w' => e = .returned (.int .i64 (-1)) ∧ w' = w := by
  obtain ⟨b, rfl⟩ := one_byte hl
  obtain ⟨n, rfl⟩ := u8_fin b
  rw [← kb_no n hk]
  exact Tryd.strings_Index_one ⟨#[118, 116, 100, 99]⟩ _ w
/-- The variable that strings.Index reads. -/
def IdxV (w : World) : Prop := ∃ m : Int, w.cell? ⟨0, 0, none⟩ = some (.int .i64 m)
theorem idx_any {w : World} (x : ByteArray) (h : IdxV w) : Calls Tryd.prog 48 #[.string ⟨#[118, 116, 100, 99]⟩, .string x] w fun e w' => (∃ j : Int, e = .returned (.int .i64 j)) ∧ w' = w := by
  obtain ⟨m, h⟩ := h
  exact (Tryd.strings_Index ⟨#[118, 116, 100, 99]⟩ x m w (by decide) h).mono fun e w' ⟨a, b⟩ => ⟨⟨_, a⟩, b⟩
theorem IdxV.grown {w w' : World} {g : Nat} (h : IdxV w) (hg : w.grownBy w' (some g)) (h0 : g ≠ 0) : IdxV w' := by
  obtain ⟨m, h⟩ := h
  have hlt : 0 < w.heap.size := Lib.lt_of_cell h
  exact ⟨m, (World.cell?_of_block (w := w) (a := ⟨0, 0, none⟩) (hg.block 0 hlt (fun e => h0 (Option.some.inj e).symm))).trans h⟩
def KindOut (w : World) (g : Nat) (s : RS) (e : Ending) (w' : World) : Prop := e = .returned (.int .i64 ((rdKind s).1 : Int)) ∧ RdOut w w' g (rdKind s).2
set_option maxHeartbeats 4000000 in
theorem kind_any {w : World} {g : Nat} {s : RS} (h : TxA w g s) (hv : IdxV w) (h0 : g ≠ 0) : Calls Tryd.prog 37 #[.pointer (some ⟨g, 0, none⟩)] w (KindOut w g s) := by
  have HW := Lib.hid (word_any h)
  have HV := Lib.hid hv
  have H0 := Lib.hid h0
  clear h hv h0
  obtain ⟨k, hk⟩ : ∃ k, kindW (rdWord s).1 = k := ⟨_, rfl⟩
  by_cases hz : k = 0
  · subst hz
    have HK := Lib.hid hk
    have HO : Hid (rdKind s = (0, { (rdWord s).2 with wrong := true })) := Lib.hid (by unfold rdKind; rw [if_pos hk])
    clear hk
    by_cases hl : (rdWord s).1.length = 1
    · have HL := Lib.hid hl
      clear hl
      go_enter Tryd.func37, Tryd.ntmps37
      go_wp2_with (first
        | (go_at_call 39; (with_reducible refine HW.out.mono ?_); rintro e w1 ⟨x, rfl, hx, hxs, ht, hg⟩; have q1 : ((x.size : Int) != 1) = false := (by have hh := HL.out; rw [← hx] at hh; simp at hh; simp [hh]); obtain ⟨c1, f1⟩ := ht.cells; have HX := Lib.hid hx; have HS := Lib.hid hxs; have HT := Lib.hid ht; have HG := Lib.hid hg; clear hx hxs ht hg)
        | (go_at_call 48; (with_reducible refine (idx_no (by rw [HX.out]; exact HK.out) (by rw [HX.out]; exact HL.out) _).mono ?_); rintro e w2 ⟨rfl, rfl⟩))
      go_ret
      refine ⟨?_, ?_⟩
      · rw [HO.out]; rfl
      · rw [HO.out]
        exact ⟨HT.out.wrong, gr_tr HG.out (gr_set _ _ _ _)⟩
    · have HL := Lib.hid hl
      clear hl
      go_enter Tryd.func37, Tryd.ntmps37
      go_wp2_with (first
        | (go_at_call 39; (with_reducible refine HW.out.mono ?_); rintro e w1 ⟨x, rfl, hx, hxs, ht, hg⟩; have q1 : ((x.size : Int) != 1) = true := (by have hh := HL.out; rw [← hx] at hh; simp at hh; rw [bne_iff_ne]; omega); obtain ⟨c1, f1⟩ := ht.cells; have HX := Lib.hid hx; have HS := Lib.hid hxs; have HT := Lib.hid ht; have HG := Lib.hid hg; clear hx hxs ht hg)
        | (go_at_call 48; (with_reducible refine (idx_any _ (HV.out.grown HG.out H0.out)).mono ?_); rintro e w2 ⟨⟨j, rfl⟩, rfl⟩))
      go_ret
      refine ⟨?_, ?_⟩
      · rw [HO.out]; rfl
      · rw [HO.out]
        exact ⟨HT.out.wrong, gr_tr HG.out (gr_set _ _ _ _)⟩
  · have HK := Lib.hid hk
    have HZ := Lib.hid hz
    have HL := Lib.hid (kb_len (l := (rdWord s).1) (by rw [hk]; exact hz))
    have HO : Hid (rdKind s = (k, (rdWord s).2)) := Lib.hid (by unfold rdKind; rw [if_neg (by rw [hk]; exact hz), hk])
    clear hk hz
    go_enter Tryd.func37, Tryd.ntmps37
    go_wp2_with (first
      | (go_at_call 39; (with_reducible refine HW.out.mono ?_); rintro e w1 ⟨x, rfl, hx, hxs, ht, hg⟩; have q1 : ((x.size : Int) != 1) = false := (by have hh := HL.out; rw [← hx] at hh; simp at hh; simp [hh]); have HX := Lib.hid hx; have HS := Lib.hid hxs; have HT := Lib.hid ht; have HG := Lib.hid hg; clear hx hxs ht hg)
      | (go_at_call 48; (with_reducible refine (idx_yes (k := k) (by rw [HX.out]; exact HK.out) HZ.out _).mono ?_); rintro e w2 ⟨j, rfl, hj, hj0, hj3, rfl⟩; have HJ := Lib.hid hj; have hjd : decide (j < 0) = false := decide_eq_false (by omega); clear hj))
    go_ret
    refine ⟨?_, ?_⟩
    · rw [HO.out]; exact congrArg (fun z => Ending.returned (.int .i64 z)) HJ.out.symm
    · rw [HO.out]
      exact ⟨HT.out, HG.out⟩
end Go.Proofs.YtokdfdinnaghmaaDoor.Tx
