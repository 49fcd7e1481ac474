/- Walks: the reader's take, decimal and kind. -/
import Derived.Test.YtblhpbheejemnaaPkU
namespace Go.Proofs.Ytblhpbheejemnaa
open Go.RowKit

/-- A reader: the bytes that were not taken yet, and whether something was wrong. -/
structure RdS (w : World) (g b o n c : Nat) (l : List Int) (f : Bool) : Prop where
  blk : w.heap[g]? = some (.cells #[.slice (some ⟨b, o, none⟩) n c, .bool f] 69 (0, 0))
  byt : Byt w (some ⟨b, o, none⟩) n c l
  ne : b ≠ g
  cap : n < c
  bin : b < w.heap.size
theorem RdS.lt {w : World} {g b o n c : Nat} {l : List Int} {f : Bool} (h : RdS w g b o n c l f) : g < w.heap.size := (Array.getElem?_eq_some_iff.1 h.blk).1
theorem RdS.cells {w : World} {g b o n c : Nat} {l : List Int} {f : Bool} (h : RdS w g b o n c l f) : w.cell? ⟨g, 0, none⟩ = some (.slice (some ⟨b, o, none⟩) n c) ∧ w.cell? ⟨g, 1, none⟩ = some (.bool f) ∧ w.frozen? ⟨g, 0, none⟩ = false ∧ w.frozen? ⟨g, 1, none⟩ = false := by
  have := h.blk
  simp [World.cell?, World.frozen?, this]
theorem grown_set1 (w : World) (g i : Nat) (u : Value) : w.grownBy (w.setCell ⟨g, i, none⟩ u) (some g) :=
  ⟨rfl, rfl, rfl, by simp [World.setCell], fun k _ hk => Below.heap_setCell _ _ _ _ (fun e => hk (by rw [e]))⟩
theorem byt_grown {w w' : World} {b o n c g : Nat} {l : List Int} (h : Byt w (some ⟨b, o, none⟩) n c l) (hg : w.grownBy w' (some g)) (hne : b ≠ g) : Byt w' (some ⟨b, o, none⟩) n c l :=
  h.grown hg (fun x hx _ e => by injection hx with hx; subst hx; exact hne (Option.some.inj e).symm)
theorem RdS.setF {w : World} {g b o n c : Nat} {l : List Int} {f : Bool} (h : RdS w g b o n c l f) (f' : Bool) : RdS (w.setCell ⟨g, 1, none⟩ (.bool f')) g b o n c l f' where
  blk := by have := h.blk; simp [World.setCell, Array.getElem?_modify, this]
  byt := byt_grown h.byt (grown_set1 _ _ _ _) h.ne
  ne := h.ne
  cap := h.cap
  bin := by simpa [World.setCell] using h.bin
theorem RdS.next {w : World} {g b o n c : Nat} {l : List Int} {f : Bool} (h : RdS w g b o n c l f) {s : Nat} (hs : s ≤ n) : RdS (w.setCell ⟨g, 0, none⟩ (.slice (some ⟨b, o + s, none⟩) (n - s) (c - s))) g b (o + s) (n - s) (c - s) (l.drop s) f where
  blk := by have := h.blk; simp [World.setCell, Array.getElem?_modify, this]
  byt := byt_grown (byt_drop h.byt s hs) (grown_set1 _ _ _ _) h.ne
  ne := h.ne
  cap := by have := h.cap; omega
  bin := by simpa [World.setCell] using h.bin
theorem RdS.grow {w w' : World} {g b o n c : Nat} {l : List Int} {f : Bool} {row : Option Nat} (h : RdS w g b o n c l f) (hg : w.grownBy w' row) (h1 : row ≠ some g) (h2 : row ≠ some b) : RdS w' g b o n c l f where
  blk := (hg.block g h.lt (fun e => h1 e.symm)).trans h.blk
  byt := h.byt.grown hg (fun x hx _ e => by injection hx with hx; subst hx; exact h2 e)
  ne := h.ne
  cap := h.cap
  bin := Nat.lt_of_lt_of_le h.bin hg.size
theorem gr_trans {a b c : World} {row : Option Nat} (h : a.grownBy b row) (k : b.grownBy c row) : a.grownBy c row :=
  ⟨k.os.trans h.os, k.tape.trans h.tape, k.output.trans h.output, Nat.le_trans h.size k.size, fun i hi hr => (k.block i (Nat.lt_of_lt_of_le hi h.size) hr).trans (h.block i hi hr)⟩
theorem gr_below {a b : World} {row : Option Nat} (h : Below a.heap.size a b) : a.grownBy b row := ⟨h.os, h.tape, h.output, h.size, fun k hk _ => h.block k hk⟩
/-- What take leaves. -/
def TakeOut (w : World) (g b o n c s : Nat) (l : List Int) (f : Bool) (w' : World) : Prop :=
  RdS w' g b (o + s) (n - s) (c - s) (l.drop s) f ∧ w.grownBy w' (some g)
set_option maxHeartbeats 2000000 in
theorem take_any {w : World} {g b o n c : Nat} {l : List Int} {f : Bool} (s : Nat) (h : RdS w g b o n c l f) (hs : s ≤ n) :
    Calls Try.prog 43 #[.pointer (some ⟨g, 0, none⟩), .int .i64 s] w fun e w' => e = .returned (.slice (some ⟨b, o, none⟩) s s) ∧ TakeOut w g b o n c s l f w' ∧ Byt w' (some ⟨b, o, none⟩) s s (l.take s) := by
  obtain ⟨c0, c1, f0, f1⟩ := h.cells
  have HN := Lib.hid (h.next hs)
  have HT := Lib.hid (byt_grown ((byt_take h.byt s hs).full) (grown_set1 w g 0 (.slice (some ⟨b, o + s, none⟩) (n - s) (c - s))) h.ne)
  have hcn := h.cap
  have hmax := h.byt.max
  unfold maxLen at hmax
  have hsi : (s : Int) ≤ (n : Int) := by omega
  have hsc : (s : Int) ≤ (c : Int) := by omega
  have hs0 : (0 : Int) ≤ (s : Int) := by omega
  have hq : ¬ (c = s) := by omega
  clear h hs
  go_enter Try.func43, Try.ntmps43
  go_wp2_with fail
  go_ret
  exact ⟨rfl, ⟨HN.out, grown_set1 _ _ _ _⟩, HT.out⟩
theorem take_is {w : World} {g b o n c : Nat} {l : List Int} {f : Bool} (z : Int) (s : Nat) (hz : z = (s : Int)) (h : RdS w g b o n c l f) (hs : s ≤ n) :
    Calls Try.prog 43 #[.pointer (some ⟨g, 0, none⟩), .int .i64 z] w fun e w' => e = .returned (.slice (some ⟨b, o, none⟩) s s) ∧ TakeOut w g b o n c s l f w' ∧ Byt w' (some ⟨b, o, none⟩) s s (l.take s) := by
  subst hz; exact take_any s h hs
set_option maxHeartbeats 2000000 in
theorem rdDec_any {w : World} {g b o n c : Nat} {l : List Int} {f : Bool} (z : Int) (s : Nat) (hz : z = (s : Int)) (h : RdS w g b o n c l f) (hs : s ≤ n) :
    Calls Try.prog 40 #[.pointer (some ⟨g, 0, none⟩), .int .i64 z] w fun e w' => e = .returned (.int .i64 (deL (l.take s)).1) ∧ TakeOut w g b o n c s l (f || !decide ((deL (l.take s)).2 = 0)) w' := by
  subst hz
  have HT := Lib.hid (take_any s h hs)
  obtain ⟨dx, hdx⟩ : ∃ dx, (deL (l.take s)).1 = dx := ⟨_, rfl⟩
  obtain ⟨de, hde⟩ : ∃ de, (deL (l.take s)).2 = de := ⟨_, rfl⟩
  have HDE : Hid (deL (l.take s) = (dx, de)) := Lib.hid (by rw [← hdx, ← hde])
  rw [hdx, hde]
  clear h hs hdx hde
  by_cases h0 : de = 0
  · subst h0
    go_enter Try.func40, Try.ntmps40
    go_wp2_with (first
      | (go_at_call 43; (with_reducible refine HT.out.mono ?_); rintro e w1 ⟨rfl, ht1, y1⟩; have HT1 := Lib.hid ht1; have HY1 := Lib.hid y1; clear ht1 y1)
      | (go_at_call 11; (with_reducible refine (decimal_is _ _ _ _ _ HY1.out HDE.out).mono ?_); rintro e w2 ⟨rfl, rfl⟩))
    go_ret
    exact ⟨rfl, by simpa using HT1.out⟩
  · have hq : (de == 0) = false := by simp [h0]
    have HD0 := Lib.hid h0
    clear h0
    go_enter Try.func40, Try.ntmps40
    go_wp2_with (first
      | (go_at_call 43; (with_reducible refine HT.out.mono ?_); rintro e w1 ⟨rfl, ht1, y1⟩; have HT1 := Lib.hid ht1; have HY1 := Lib.hid y1; obtain ⟨c0, c1, f0, f1⟩ := ht1.1.cells; clear ht1 y1)
      | (go_at_call 11; (with_reducible refine (decimal_is _ _ _ _ _ HY1.out HDE.out).mono ?_); rintro e w2 ⟨rfl, rfl⟩))
    go_ret
    exact ⟨rfl, by have h := HT1.out.1.setF true; rw [decide_eq_false HD0.out]; simpa using h, gr_trans HT1.out.2 (grown_set1 _ _ _ _)⟩
theorem and1 (x : Int) (h0 : 0 ≤ x) (h1 : x ≤ 255) : bits BinOp.and .u8 x 1 = x % 2 ∧ bits BinOp.and .u8 x 2 = x / 2 % 2 * 2 := by
  have key : ∀ n : Fin 256, bits BinOp.and IntKind.u8 (n.val : Int) 1 = (n.val : Int) % 2 ∧ bits BinOp.and IntKind.u8 (n.val : Int) 2 = (n.val : Int) / 2 % 2 * 2 := by decide +kernel
  have := key ⟨x.toNat, by omega⟩
  simp only at this
  rwa [show ((x.toNat : Nat) : Int) = x by omega] at this
set_option maxHeartbeats 2000000 in
theorem rdKind_any {w : World} {g b o n c : Nat} {l : List Int} {f : Bool} {x : Int} (h : RdS w g b o n c l f) (hs : 1 ≤ n) (hx : l[0]? = some x) :
    Calls Try.prog 41 #[.pointer (some ⟨g, 0, none⟩)] w fun e w' => e = .returned (.tuple #[.int .i64 (x / 16), .bool (decide (x % 2 = 1)), .bool (decide (x / 2 % 2 = 1))]) ∧ TakeOut w g b o n c 1 l (f || decide (3 < x % 16)) w' := by
  have HT := Lib.hid (take_is 1 1 rfl h hs)
  have hr := h.byt.ran x (List.mem_of_getElem? hx)
  obtain ⟨r0, r1⟩ := hr
  have HX := Lib.hid hx
  obtain ⟨y, hy⟩ : ∃ y, x % 16 = y := ⟨_, rfl⟩
  have HYY := Lib.hid hy
  have han : bits BinOp.and .u8 x 15 = y := by rw [and15 x r0 r1, hy]
  have y0 : 0 ≤ y := by omega
  have y1 : y ≤ 15 := by omega
  obtain ⟨a1, a2⟩ := and1 y y0 (by omega)
  obtain ⟨p, hp⟩ : ∃ p, y % 2 = p := ⟨_, rfl⟩
  obtain ⟨q, hq⟩ : ∃ q, y / 2 % 2 * 2 = q := ⟨_, rfl⟩
  rw [hp] at a1
  rw [hq] at a2
  have HP : Hid ((p != 0) = decide (x % 2 = 1)) := Lib.hid (by
    by_cases e : p = 0
    · rw [e]; symm; exact decide_eq_false (by omega)
    · have : p = 1 := by omega
      rw [this]; symm; exact decide_eq_true (by omega))
  have HQ : Hid ((q != 0) = decide (x / 2 % 2 = 1)) := Lib.hid (by
    by_cases e : q = 0
    · rw [e]; symm; exact decide_eq_false (by omega)
    · have : q = 2 := by omega
      rw [this]; symm; exact decide_eq_true (by omega))
  rw [hy, ← HP.out, ← HQ.out]
  clear h hs hx hp hq
  by_cases h3 : 3 < y
  · have d3 : decide (3 < y) = true := decide_eq_true h3
    rw [d3, Bool.or_true]
    go_enter Try.func41, Try.ntmps41
    go_wp2_with (go_at_call 43; (with_reducible refine HT.out.mono ?_); rintro e w1 ⟨rfl, ht1, z1⟩; have HT1 := Lib.hid ht1; obtain ⟨c0, c1, f0, f1⟩ := ht1.1.cells; have hcx : w1.cell? ⟨b, o, none⟩ = some (.int .u8 x) := (by obtain ⟨b', o', x', e1, e2, e3, -⟩ := z1.at (k := 0) (by omega); injection e1 with e1; injection e1 with e4 e5 e6; subst e4 e5; rw [List.getElem?_take_of_lt (by omega), HX.out] at e2; injection e2 with e2; subst e2; exact e3); clear ht1 z1)
    go_ret3
    exact ⟨rfl, HT1.out.1.setF true, gr_trans HT1.out.2 (grown_set1 _ _ _ _)⟩
  · have d3 : decide (3 < y) = false := decide_eq_false h3
    rw [d3, Bool.or_false]
    go_enter Try.func41, Try.ntmps41
    go_wp2_with (go_at_call 43; (with_reducible refine HT.out.mono ?_); rintro e w1 ⟨rfl, ht1, z1⟩; have HT1 := Lib.hid ht1; have hcx : w1.cell? ⟨b, o, none⟩ = some (.int .u8 x) := (by obtain ⟨b', o', x', e1, e2, e3, -⟩ := z1.at (k := 0) (by omega); injection e1 with e1; injection e1 with e4 e5 e6; subst e4 e5; rw [List.getElem?_take_of_lt (by omega), HX.out] at e2; injection e2 with e2; subst e2; exact e3); clear ht1 z1)
    go_ret3
    exact ⟨rfl, HT1.out⟩
end Go.Proofs.Ytblhpbheejemnaa
