/- Walks: the field of a number, in the program and in the reference. -/
import Derived.Test.YtblhpbheejemnaaPkR
import Derived.Test.YtblhpbheejemnaaDigMaskM
import Derived.Test.YtblhpbheejemnaaRcM
import Derived.RegionTactic
namespace Go.Proofs.Ytblhpbheejemnaa
open Go.RowKit

/-- The half byte k of a field of which the first i digits are written. -/
def phA (s : List UInt8) (i k : Nat) : Int := if k = 0 then (s.length : Int) else if k ≤ i then ((s.getD (k - 1) 0).toNat : Int) - 48 else 0
def phT (s : List UInt8) (i : Nat) : List Int := (List.range 8).map fun j => phA s i (2 * j) * 16 + phA s i (2 * j + 1)
/-- The field of a number. -/
def phL (s : ByteArray) : List Int := phT s.data.toList s.size
theorem phT_len (s : List UInt8) (i : Nat) : (phT s i).length = 8 := by simp [phT]
theorem phT_zero (s : List UInt8) : phT s 0 = [(s.length : Int) * 16, 0, 0, 0, 0, 0, 0, 0] := by
  simp [phT, phA, List.range, List.range.loop]
theorem phT_at (s : List UInt8) (i j : Nat) (h : j < 8) : (phT s i)[j]'(by rw [phT_len]; exact h) = phA s i (2 * j) * 16 + phA s i (2 * j + 1) := by simp [phT]
theorem phA_keep {s : List UInt8} {i k : Nat} (h : k ≠ i + 1) : phA s (i + 1) k = phA s i k := by
  unfold phA
  by_cases h0 : k = 0
  · rw [if_pos h0, if_pos h0]
  · rw [if_neg h0, if_neg h0]
    by_cases h1 : k ≤ i
    · rw [if_pos (by omega), if_pos h1]
    · rw [if_neg (by omega), if_neg h1]
theorem phT_set {s : List UInt8} {i q : Nat} (hq : q = (i + 1) / 2) {x : Int} (hx : x = phA s (i + 1) (2 * q) * 16 + phA s (i + 1) (2 * q + 1)) : (phT s i).set q x = phT s (i + 1) := by
  apply List.ext_getElem
  · rw [List.length_set, phT_len, phT_len]
  · intro j h1 h2
    rw [List.length_set, phT_len] at h1
    rw [List.getElem_set, phT_at s (i + 1) j h1]
    split
    · rename_i h; subst h; exact hx
    · rename_i h
      rw [phT_at s i j h1, phA_keep (by omega), phA_keep (by omega)]
/-- Digits, at most 15. -/
def dgB (s : ByteArray) : Bool := decide (s.size ≤ 15) && s.data.toList.all dgt
theorem dg_num {s : ByteArray} (h : numB s.data.toList = true) : dgB s = true := by
  unfold numB at h; unfold dgB
  simp only [Bool.and_eq_true, decide_eq_true_eq, len_data] at h ⊢
  exact ⟨h.1.2, h.2⟩
theorem dg_empty {s : ByteArray} (h : s.size = 0) : dgB s = true := by
  unfold dgB
  have : s.data.toList = [] := List.eq_nil_of_length_eq_zero (by rw [len_data]; exact h)
  rw [this, h]; rfl
theorem dg_isT {s : ByteArray} {k : Int} (h : isT s k = true) : dgB s = true := by
  unfold isT at h
  split at h
  · rename_i h0; exact dg_empty h0
  · exact dg_num h
theorem dg_at {s : ByteArray} (h : dgB s = true) {k : Nat} (hk : k < s.size) : 48 ≤ (s[k].toNat : Int) ∧ (s[k].toNat : Int) ≤ 57 := by
  unfold dgB at h
  rw [Bool.and_eq_true, List.all_eq_true] at h
  have := h.2 s[k] (by simp [ByteArray.getElem_eq_getElem_data])
  simpa [dgt] using this
theorem dg_size {s : ByteArray} (h : dgB s = true) : s.size ≤ 15 := by
  unfold dgB at h
  rw [Bool.and_eq_true, decide_eq_true_eq] at h; exact h.1
theorem phA_new {s : ByteArray} {i : Nat} (hi : i < s.size) : phA s.data.toList (i + 1) (i + 1) = (s[i].toNat : Int) - 48 := by
  unfold phA
  rw [if_neg (by omega), if_pos (by omega), Nat.add_sub_cancel]
  have : s.data.toList.getD i 0 = s[i] := by simp [List.getD, List.getElem?_eq_getElem, hi, ByteArray.getElem_eq_getElem_data]
  rw [this]
theorem phA_off {s : List UInt8} {i k : Nat} (h : i < k) : phA s i k = 0 := by unfold phA; rw [if_neg (by omega), if_neg (by omega)]
theorem phA_ran {s : ByteArray} (h : dgB s = true) {i k : Nat} (hi : i ≤ s.size) : 0 ≤ phA s.data.toList i k ∧ phA s.data.toList i k ≤ 15 := by
  have h15 := dg_size h
  unfold phA
  split
  · rw [len_data]; omega
  · rename_i h0
    split
    · rename_i h1
      have hk : k - 1 < s.size := by omega
      have : s.data.toList.getD (k - 1) 0 = s[k - 1] := by simp [List.getD, List.getElem?_eq_getElem, hk, ByteArray.getElem_eq_getElem_data]
      rw [this]
      have := dg_at h hk
      omega
    · omega
theorem phT_ran {s : ByteArray} (h : dgB s = true) {i : Nat} (hi : i ≤ s.size) : ∀ x ∈ phT s.data.toList i, 0 ≤ x ∧ x ≤ 255 := by
  intro x hx
  obtain ⟨j, _, rfl⟩ := List.mem_map.1 hx
  have h1 := phA_ran h (k := 2 * j) hi
  have h2 := phA_ran h (k := 2 * j + 1) hi
  omega
theorem or_ph (a b : Int) (h0 : 0 ≤ a) (h1 : a ≤ 15) (h2 : 0 ≤ b) (h3 : b ≤ 15) : bits BinOp.or IntKind.u8 (a * 16) b = a * 16 + b := by
  obtain ⟨n, rfl⟩ := Int.eq_ofNat_of_zero_le h0
  obtain ⟨m, rfl⟩ := Int.eq_ofNat_of_zero_le h2
  have key : ∀ n : Fin 16, ∀ m : Fin 16, bits BinOp.or IntKind.u8 ((n.val : Int) * 16) (m.val : Int) = (n.val : Int) * 16 + (m.val : Int) := by decide +kernel
  exact key ⟨n, by omega⟩ ⟨m, by omega⟩
theorem or_nil (x : Int) (h0 : 0 ≤ x) (h1 : x ≤ 255) : bits BinOp.or IntKind.u8 0 x = x := by
  obtain ⟨n, rfl⟩ := Int.eq_ofNat_of_zero_le h0
  have key : ∀ n : Fin 256, bits BinOp.or IntKind.u8 0 (n.val : Int) = (n.val : Int) := by decide +kernel
  exact key ⟨n, by omega⟩
/-- An array of bytes in memory. -/
def Row8 (w : World) (g : Nat) (t : TypeId) (L : List Int) : Prop := w.heap[g]? = some (.cells (C8 L).toArray t (0, 0))
theorem Row8.lt {w : World} {g : Nat} {t : TypeId} {L : List Int} (h : Row8 w g t L) : g < w.heap.size := (Array.getElem?_eq_some_iff.1 h).1
theorem Row8.cell {w : World} {g : Nat} {t : TypeId} {L : List Int} (h : Row8 w g t L) {k : Nat} (hk : k < L.length) : w.cell? ⟨g, k, none⟩ = some (.int .u8 L[k]) ∧ w.frozen? ⟨g, k, none⟩ = false := by
  refine ⟨?_, by simp [World.frozen?, show w.heap[g]? = _ from h]⟩
  rw [cell_of_row w g k _ t (0, 0) h]
  have := C8_at hk
  simpa using this
theorem Row8.set {w : World} {g : Nat} {t : TypeId} {L : List Int} (h : Row8 w g t L) (k : Nat) (y : Int) : Row8 (w.setCell ⟨g, k, none⟩ (.int .u8 y)) g t (L.set k y) := by
  unfold Row8 at h ⊢
  simp [World.setCell, Array.getElem?_modify, h, C8, List.map_set]
theorem Row8.below {w w' : World} {g B : Nat} {t : TypeId} {L : List Int} (h : Row8 w g t L) (hb : Below B w w') (hg : g < B) : Row8 w' g t L := (hb.block g hg).trans h
theorem Row8.has {w : World} {g : Nat} {t : TypeId} {L : List Int} (h : Row8 w g t L) {n : Nat} (hn : L.length = n) (c : Nat) : Has w (some ⟨g, 0, none⟩) n c (C8 L) :=
  ⟨by rw [C8_len, hn], C8_one _, .inr ⟨_, rfl, fun j u hj => ⟨h.lt, by rw [add_none, Nat.zero_add, cell_of_row w g j _ t (0, 0) h, ← hj]; simp⟩⟩⟩
set_option maxRecDepth 100000 in
set_option maxHeartbeats 4000000 in
theorem phone_any (v : Value) (base m : Nat) (L : List Int) (s : ByteArray) (w : World) (hv : Own w base v L) (hm : L.length = m) (hs : dgB s = true) (h6 : m ≤ 1000) (hbase : base ≤ w.heap.size) :
    Calls Try.prog 37 #[v, .string s] w (Gives w base (L ++ phL s)) := by
  obtain ⟨i0, hi0, hz0, hz1, hz2⟩ := info_parts byteInfo
  have h15 := dg_size hs
  have HV := Lib.hid hv; have HS := Lib.hid hs; have HM := Lib.hid hm; have HBA := Lib.hid hbase
  have hR0 : Row8 (w.alloc (.cells (C8 [(s.size : Int) * 16, 0, 0, 0, 0, 0, 0, 0]).toArray 73)) w.heap.size 73 (phT s.data.toList 0) := by
    rw [phT_zero, len_data]; exact heap_alloc_new w _
  have HR0 := Lib.hid hR0
  have HB0 : Hid (Below w.heap.size w (w.alloc (.cells (C8 [(s.size : Int) * 16, 0, 0, 0, 0, 0, 0, 0]).toArray 73))) := Lib.hid ((Below.refl _ w).alloc (Nat.le_refl _) _)
  clear hR0 hv hs hm hbase
  go_enter Try.func37, Try.ntmps37
  go_wp2_with fail
  go_loopw [16] (fun iv wr => ∃ k : Nat, iv = .int .i64 k ∧ k ≤ s.size ∧ Hid (Row8 wr w.heap.size 73 (phT s.data.toList k)) ∧ Hid (Below w.heap.size w wr)) (fun iv _ => s.size - (intOf iv).toNat)
  case atStart => exact ⟨0, rfl, by omega, HR0, HB0⟩
  case round =>
    obtain ⟨k, rfl, hk, HR, HB⟩ := hrel
    by_cases hlt : k < s.size
    · obtain ⟨c48, c57⟩ := dg_at HS.out hlt
      have hlt' : (k : Int) < (s.size : Int) := by omega
      obtain ⟨q, hq⟩ : ∃ q, (k + 1) / 2 = q := ⟨_, rfl⟩
      have hq8 : q < 8 := by omega
      have hqi : ((k : Int) + 1) / 2 = (q : Int) := by omega
      obtain ⟨cx, fx⟩ := HR.out.cell (k := q) (by rw [phT_len]; exact hq8)
      rw [phT_at _ _ _ hq8] at cx
      have hk14 : k ≤ 14 := by omega
      by_cases he : (k + 1) % 2 = 0
      · have e2 : (((k : Int) + 1) % 2 == 0) = true := by simp; omega
        rw [phA_off (show k < 2 * q by omega), phA_off (show k < 2 * q + 1 by omega), show (0 : Int) * 16 + 0 = 0 from rfl] at cx
        have hor : bits BinOp.or .u8 0 (((s[k].toNat : Int) - 48) * 16) = ((s[k].toNat : Int) - 48) * 16 := or_nil _ (by omega) (by omega)
        have HN : Hid (Row8 (wr.setCell ⟨w.heap.size, q, none⟩ (.int .u8 (((s[k].toNat : Int) - 48) * 16))) w.heap.size 73 (phT s.data.toList (k + 1))) := Lib.hid (by
          have h := HR.out.set q (((s[k].toNat : Int) - 48) * 16)
          rw [phT_set hq.symm (by rw [show 2 * q = k + 1 by omega, phA_new hlt, phA_off (by omega), Int.add_zero])] at h
          exact h)
        clear hq he
        go_wp2_with fail
        go_roundw
        case rel => exact ⟨k + 1, by go_num, by omega, HN, Lib.hid (HB.out.setCell (p := ⟨w.heap.size, q, none⟩) (Nat.le_refl _) _)⟩
        case measure => simp [intOf]; omega
      · have e2 : (((k : Int) + 1) % 2 == 0) = false := by simp; omega
        rw [phA_off (show k < 2 * q + 1 by omega), Int.add_zero] at cx
        obtain ⟨a0, a1⟩ := phA_ran HS.out (k := 2 * q) hk
        obtain ⟨z, hz⟩ : ∃ z, phA s.data.toList k (2 * q) = z := ⟨_, rfl⟩
        rw [hz] at a0 a1 cx
        have hor : bits BinOp.or .u8 (z * 16) ((s[k].toNat : Int) - 48) = z * 16 + ((s[k].toNat : Int) - 48) := or_ph _ _ (by omega) (by omega) (by omega) (by omega)
        have HN : Hid (Row8 (wr.setCell ⟨w.heap.size, q, none⟩ (.int .u8 (z * 16 + ((s[k].toNat : Int) - 48)))) w.heap.size 73 (phT s.data.toList (k + 1))) := Lib.hid (by
          have h := HR.out.set q (z * 16 + ((s[k].toNat : Int) - 48))
          rw [phT_set hq.symm (by rw [phA_keep (by omega), hz, show 2 * q + 1 = k + 1 by omega, phA_new hlt])] at h
          exact h)
        clear hq he hz
        go_wp2_with fail
        go_roundw
        case rel => exact ⟨k + 1, by go_num, by omega, HN, Lib.hid (HB.out.setCell (p := ⟨w.heap.size, q, none⟩) (Nat.le_refl _) _)⟩
        case measure => simp [intOf]; omega
    · obtain rfl : k = s.size := by omega
      have HVW : Hid (Own wr base v L) := Lib.hid (HV.out.below HB.out)
      have hbw : base ≤ wr.heap.size := Nat.le_trans HBA.out HB.out.size
      have HBW := Lib.hid hbw
      clear hbw
      go_wp2_with (at_builtin; refine wpList_append_has rfl (.tmp 38) (.tmp 39) 22 rfl base 5 i0 _ 1 Try.underlying22 hi0 hz0 hz1 hz2 rfl v m (C8 L) rfl (by have h := HVW.out.1; rw [HM.out] at h; exact h) (some ⟨w.heap.size, 0, none⟩) 8 8 (C8 (phT s.data.toList s.size)) rfl (HR.out.has (phT_len _ _) 8) (by unfold maxLen; omega) (by omega) HBW.out ?_; intro v2 w2 q1 q2; have HV2 := Lib.hid q1; have HB2 : Hid (Below base w w2) := Lib.hid ((HB.out.mono HBA.out).grown q2 HBW.out (fun g hg => (HVW.out.1.lt g hg).1)); clear q1 q2)
      go_ret
      exact ⟨_, rfl, own_app HV2.out HM.out (phT_len _ _) HVW.out.2 (phT_ran HS.out (Nat.le_refl _)), HB2.out⟩
end Go.Proofs.Ytblhpbheejemnaa
