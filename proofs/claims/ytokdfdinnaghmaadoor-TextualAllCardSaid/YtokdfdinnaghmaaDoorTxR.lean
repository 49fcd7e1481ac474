/- Walks: the reader's word and skip. -/
import Derived.Test.YtokdfdinnaghmaaDoorTxP
import Derived.Test.YtokdfdinnaghmaaDoorTxN
import Derived.Deep.Cut
namespace Go.Proofs.YtokdfdinnaghmaaDoor.Tx
open Go Go.Lib Go.RowKit

/-- A reader: the words that were not taken yet, and whether something was wrong. -/
structure TxS (w : World) (g : Nat) (p : Option Addr) (n c : Nat) (l : List ByteArray) (f : Bool) : Prop where
  blk : w.heap[g]? = some (.cells #[.slice p n c, .bool f] 62 (0, 0))
  len : l.length = n
  cap : n ≤ c
  max : c ≤ maxLen
  wds : ∀ k (hk : k < l.length), ∃ b off, p = some ⟨b, off, none⟩ ∧ b < w.heap.size ∧ b < g ∧ w.cell? ⟨b, off + k, none⟩ = some (.string l[k])
  sz : ∀ x ∈ l, x.size ≤ maxLen
section
variable {w w' : World} {g : Nat} {p : Option Addr} {n c : Nat} {l : List ByteArray} {f : Bool}
theorem TxS.lt (h : TxS w g p n c l f) : g < w.heap.size := (Array.getElem?_eq_some_iff.1 h.blk).1
theorem TxS.cells (h : TxS w g p n c l f) : w.cell? ⟨g, 0, none⟩ = some (.slice p n c) ∧ w.cell? ⟨g, 1, none⟩ = some (.bool f) ∧ w.frozen? ⟨g, 0, none⟩ = false ∧ w.frozen? ⟨g, 1, none⟩ = false := by
  have := h.blk
  simp [World.cell?, World.frozen?, this]
theorem gr_set (w : World) (g i : Nat) (u : Value) : w.grownBy (w.setCell ⟨g, i, none⟩ u) (some g) :=
  ⟨rfl, rfl, rfl, by simp [World.setCell], fun k _ hk => Below.heap_setCell _ _ _ _ (fun e => hk (by rw [e]))⟩
theorem gr_tr {a b c : World} {row : Option Nat} (h : a.grownBy b row) (k : b.grownBy c row) : a.grownBy c row :=
  ⟨k.os.trans h.os, k.tape.trans h.tape, k.output.trans h.output, Nat.le_trans h.size k.size, fun i hi hr => (k.block i (Nat.lt_of_lt_of_le hi h.size) hr).trans (h.block i hi hr)⟩
theorem gr_be {a b : World} {row : Option Nat} (h : Below a.heap.size a b) : a.grownBy b row := ⟨h.os, h.tape, h.output, h.size, fun k hk _ => h.block k hk⟩
theorem gr_re (w : World) (row : Option Nat) : w.grownBy w row := ⟨rfl, rfl, rfl, Nat.le_refl _, fun _ _ _ => rfl⟩
theorem wd_keep {b o k : Nat} {v : Value} {row : Option Nat} (h : w.cell? ⟨b, o + k, none⟩ = some v) (hb : b < w.heap.size) (hg : w.grownBy w' row) (hr : row ≠ some b) : w'.cell? ⟨b, o + k, none⟩ = some v :=
  (World.cell?_of_block (w := w) (a := ⟨b, o + k, none⟩) (hg.block b hb (fun e => hr e.symm))).trans h
theorem TxS.setF (h : TxS w g p n c l f) (f' : Bool) : TxS (w.setCell ⟨g, 1, none⟩ (.bool f')) g p n c l f' where
  blk := by have := h.blk; simp [World.setCell, Array.getElem?_modify, this]
  len := h.len
  cap := h.cap
  max := h.max
  sz := h.sz
  wds := fun k hk => by
    obtain ⟨b, off, e, h1, h2, h3⟩ := h.wds k hk
    exact ⟨b, off, e, by simpa [World.setCell] using h1, h2, wd_keep h3 h1 (gr_set w g 1 (.bool f')) (fun e => Nat.ne_of_lt h2 (Option.some.inj e).symm)⟩
theorem TxS.next {b off : Nat} {x : ByteArray} (h : TxS w g (some ⟨b, off, none⟩) n c (x :: l) f) (q : Option Addr) (hq : l ≠ [] → q = some ⟨b, off + 1, none⟩) : TxS (w.setCell ⟨g, 0, none⟩ (.slice q (n - 1) (c - 1))) g q (n - 1) (c - 1) l f where
  blk := by have := h.blk; simp [World.setCell, Array.getElem?_modify, this]
  len := by have := h.len; simp at this; omega
  cap := by have := h.cap; omega
  max := by have := h.max; omega
  sz := fun y hy => h.sz y (List.mem_cons_of_mem _ hy)
  wds := fun k hk => by
    obtain ⟨b', off', e, h1, h2, h3⟩ := h.wds (k + 1) (by simpa using hk)
    cases e
    refine ⟨b, off + 1, hq (fun e => by rw [e] at hk; exact absurd hk (Nat.not_lt_zero k)), by simpa [World.setCell] using h1, h2, ?_⟩
    rw [show off + 1 + k = off + (k + 1) by omega]
    exact wd_keep h3 h1 (gr_set w g 0 _) (fun e => Nat.ne_of_lt h2 (Option.some.inj e).symm)
theorem TxS.grow {row : Option Nat} (h : TxS w g p n c l f) (hg : w.grownBy w' row) (h1 : row = none) : TxS w' g p n c l f where
  blk := (hg.block g h.lt (by rw [h1]; exact fun e => by cases e)).trans h.blk
  len := h.len
  cap := h.cap
  max := h.max
  sz := h.sz
  wds := fun k hk => by
    obtain ⟨b, off, e, k1, k2, k3⟩ := h.wds k hk
    exact ⟨b, off, e, Nat.lt_of_lt_of_le k1 hg.size, k2, wd_keep k3 k1 hg (by rw [h1]; exact fun e => by cases e)⟩
/-- Stores behind the reader's block. -/
theorem TxS.keep {g' : Nat} (h : TxS w g p n c l f) (hg : w.grownBy w' (some g')) (h1 : g < g') : TxS w' g p n c l f where
  blk := (hg.block g h.lt (fun e => Nat.ne_of_lt h1 (Option.some.inj e).symm.symm)).trans h.blk
  len := h.len
  cap := h.cap
  max := h.max
  sz := h.sz
  wds := fun k hk => by
    obtain ⟨b, off, e, k1, k2, k3⟩ := h.wds k hk
    exact ⟨b, off, e, Nat.lt_of_lt_of_le k1 hg.size, k2, wd_keep k3 k1 hg (fun e => absurd (Option.some.inj e) (by omega))⟩
end
def byL (l : List ByteArray) : List Wd := l.map fun x => x.data.toList
/-- The reader in block g is s. -/
def TxA (w : World) (g : Nat) (s : RS) : Prop := ∃ p n c l, TxS w g p n c l s.wrong ∧ s.rest = byL l
theorem TxA.below {w w' : World} {g : Nat} {s : RS} (h : TxA w g s) (hb : Below w.heap.size w w') : TxA w' g s := by
  obtain ⟨p, n, c, l, h, e⟩ := h
  exact ⟨p, n, c, l, h.grow (gr_be hb) rfl, e⟩
/-- What a method of the reader leaves. -/
def RdOut (w w' : World) (g : Nat) (s : RS) : Prop := TxA w' g s ∧ w.grownBy w' (some g)
def WordOut (w : World) (g : Nat) (s : RS) (e : Ending) (w' : World) : Prop := ∃ x : ByteArray, e = .returned (.string x) ∧ x.data.toList = (rdWord s).1 ∧ x.size ≤ maxLen ∧ RdOut w w' g (rdWord s).2
theorem by_nil {x : ByteArray} : x.data.toList = [] ↔ x.size = 0 := by
  obtain ⟨⟨l⟩⟩ := x
  cases l with
  | nil => exact ⟨fun _ => rfl, fun _ => rfl⟩
  | cons a l => exact ⟨fun e => (by cases e), fun e => absurd e (by simp [ByteArray.size])⟩
set_option maxHeartbeats 4000000 in
theorem word_any {w : World} {g : Nat} {s : RS} (h : TxA w g s) : Calls Tryd.prog 39 #[.pointer (some ⟨g, 0, none⟩)] w (WordOut w g s) := by
  obtain ⟨p, n, c, l, h, e⟩ := h
  obtain ⟨r, f⟩ := s
  simp only at h e
  subst e
  obtain ⟨c0, c1, f0, f1⟩ := h.cells
  cases l with
  | nil =>
    obtain rfl : n = 0 := by have := h.len; simpa using this.symm
    have HO : Hid (WordOut w g ⟨byL [], f⟩ (.returned (.string ByteArray.empty)) (w.setCell ⟨g, 1, none⟩ (.bool true))) := Lib.hid ⟨_, rfl, rfl, Nat.zero_le _, ⟨p, _, c, [], h.setF true, rfl⟩, gr_set _ _ _ _⟩
    clear h
    go_enter Tryd.func39, Tryd.ntmps39
    go_wp2_with fail
    go_ret
    exact HO.out
  | cons x t =>
    obtain ⟨b, off, rfl, hb, hbl, hx⟩ := h.wds 0 (by simp)
    have hbg := Nat.ne_of_lt hbl
    clear hbl
    simp only [Nat.add_zero, List.getElem_cons_zero] at hx
    have hn : 1 ≤ n := by have := h.len; simp at this; omega
    have hn0 : ((n : Int) == 0) = false := by rw [beq_eq_false_iff_ne]; omega
    have hn1 : (0 : Int) < (n : Int) := by omega
    have hxs := h.sz x (by simp)
    by_cases h0 : x.size = 0
    · obtain rfl : x = ByteArray.empty := by simpa using h0
      have HO : Hid (WordOut w g ⟨byL (ByteArray.empty :: t), f⟩ (.returned (.string ByteArray.empty)) (w.setCell ⟨g, 1, none⟩ (.bool true))) := Lib.hid ⟨_, rfl, by simp [rdWord, byL], Nat.zero_le _, ⟨_, _, _, _, h.setF true, by simp [rdWord, byL]⟩, gr_set _ _ _ _⟩
      clear h h0
      go_enter Tryd.func39, Tryd.ntmps39
      go_wp2_with fail
      go_ret
      exact HO.out
    · have hE := ne_empty h0
      have hw : rdWord ⟨byL (x :: t), f⟩ = (x.data.toList, ⟨byL t, f⟩) := word_cons (fun e => h0 (by_nil.1 e))
      have hc := h.cap
      have hm := h.max
      unfold maxLen at hm
      have hnc : (1 : Int) ≤ (n : Int) := by omega
      have hcc : (1 : Int) ≤ (c : Int) := by omega
      have HO : Hid (∀ q, (t ≠ [] → q = some ⟨b, off + 1, none⟩) → WordOut w g ⟨byL (x :: t), f⟩ (.returned (.string x)) (w.setCell ⟨g, 0, none⟩ (.slice q (n - 1) (c - 1)))) := Lib.hid fun q hq => ⟨_, rfl, by rw [hw], hxs, by rw [hw]; exact ⟨⟨_, _, _, _, h.next q hq, rfl⟩, gr_set _ _ _ _⟩⟩
      have HL2 := Lib.hid (show t ≠ [] → 2 ≤ n from fun ht => by
        have h1 := h.len
        have h2 : t.length ≠ 0 := fun e => ht (List.length_eq_zero_iff.1 e)
        simp at h1; omega)
      clear h h0 hw
      by_cases hc1 : c = 1
      · obtain rfl : n = 1 := by omega
        subst hc1
        go_enter Tryd.func39, Tryd.ntmps39
        go_wp2_with fail
        go_ret
        exact HO.out (some ⟨b, off, none⟩) (fun ht => absurd (HL2.out ht) (by omega))
      · go_enter Tryd.func39, Tryd.ntmps39
        go_wp2_with fail
        go_ret
        exact HO.out _ (fun _ => rfl)
/-- What skip leaves. -/
def SkipOut (w : World) (g : Nat) (s : RS) (y : ByteArray) (e : Ending) (w' : World) : Prop := e = .returned (.bool (rdSkip y.data.toList s).1) ∧ RdOut w w' g (rdSkip y.data.toList s).2
theorem ba_ne {x y : ByteArray} (h : x.data.toList ≠ y.data.toList) : x ≠ y := fun e => h (by rw [e])
theorem ba_eq {x y : ByteArray} (h : x.data.toList = y.data.toList) : x = y := by
  obtain ⟨⟨x⟩⟩ := x
  obtain ⟨⟨y⟩⟩ := y
  simp only at h
  rw [h]
set_option maxHeartbeats 4000000 in
theorem skip_any {w : World} {g : Nat} {s : RS} (y : ByteArray) (h : TxA w g s) : Calls Tryd.prog 40 #[.pointer (some ⟨g, 0, none⟩), .string y] w (SkipOut w g s y) := by
  obtain ⟨p, n, c, l, h, e⟩ := h
  obtain ⟨r, f⟩ := s
  simp only at h e
  subst e
  obtain ⟨c0, c1, f0, f1⟩ := h.cells
  cases l with
  | nil =>
    obtain rfl : n = 0 := by have := h.len; simpa using this.symm
    have HO : Hid (SkipOut w g ⟨byL [], f⟩ y (.returned (.bool false)) w) := Lib.hid ⟨rfl, ⟨p, _, c, [], h, rfl⟩, gr_re _ _⟩
    clear h
    go_enter Tryd.func40, Tryd.ntmps40
    go_wp2_with fail
    go_ret
    exact HO.out
  | cons x t =>
    obtain ⟨b, off, rfl, hb, hbl, hx⟩ := h.wds 0 (by simp)
    have hbg := Nat.ne_of_lt hbl
    clear hbl
    simp only [Nat.add_zero, List.getElem_cons_zero] at hx
    have hn : 1 ≤ n := by have := h.len; simp at this; omega
    have hn0 : ((n : Int) == 0) = false := by rw [beq_eq_false_iff_ne]; omega
    have hn1 : (0 : Int) < (n : Int) := by omega
    by_cases h0 : x.data.toList = y.data.toList
    · have hE : (x.toList == y.toList) = true := by rw [ba_eq h0]; exact beq_self_eq_true _
      have hw : rdSkip y.data.toList ⟨byL (x :: t), f⟩ = (true, ⟨byL t, f⟩) := by simp [rdSkip, byL, h0]
      have hc := h.cap
      have hm := h.max
      unfold maxLen at hm
      have hnc : (1 : Int) ≤ (n : Int) := by omega
      have hcc : (1 : Int) ≤ (c : Int) := by omega
      have HO : Hid (∀ q, (t ≠ [] → q = some ⟨b, off + 1, none⟩) → SkipOut w g ⟨byL (x :: t), f⟩ y (.returned (.bool true)) (w.setCell ⟨g, 0, none⟩ (.slice q (n - 1) (c - 1)))) := Lib.hid fun q hq => by
        unfold SkipOut
        rw [hw]
        exact ⟨rfl, ⟨_, _, _, _, h.next q hq, rfl⟩, gr_set _ _ _ _⟩
      have HL2 := Lib.hid (show t ≠ [] → 2 ≤ n from fun ht => by
        have h1 := h.len
        have h2 : t.length ≠ 0 := fun e => ht (List.length_eq_zero_iff.1 e)
        simp at h1; omega)
      clear h h0 hw
      by_cases hc1 : c = 1
      · obtain rfl : n = 1 := by omega
        subst hc1
        go_enter Tryd.func40, Tryd.ntmps40
        go_wp2_with fail
        go_ret
        exact HO.out (some ⟨b, off, none⟩) (fun ht => absurd (HL2.out ht) (by omega))
      · go_enter Tryd.func40, Tryd.ntmps40
        go_wp2_with fail
        go_ret
        exact HO.out _ (fun _ => rfl)
    · have hE : (x.toList == y.toList) = false := by
        rw [beq_eq_false_iff_ne, ByteArray.toList_eq, ByteArray.toList_eq]
        exact h0
      have hw : rdSkip y.data.toList ⟨byL (x :: t), f⟩ = (false, ⟨byL (x :: t), f⟩) := by simp [rdSkip, byL, h0]
      have HO : Hid (SkipOut w g ⟨byL (x :: t), f⟩ y (.returned (.bool false)) w) := Lib.hid (by
        unfold SkipOut
        rw [hw]
        exact ⟨rfl, ⟨_, _, _, _, h, rfl⟩, gr_re _ _⟩)
      clear h h0 hw
      go_enter Tryd.func40, Tryd.ntmps40
      go_wp2_with fail
      go_ret
      exact HO.out
end Go.Proofs.YtokdfdinnaghmaaDoor.Tx
