/- The three sorts: prefixes by digits.Compare, zones by their names, names; by the library's contracts. -/
import Derived.Test.YtflonakoagjmhaaZnCm
import Derived.Test.YtflonakoagjmhaaShelfT
import Derived.Test.YtflonakoagjmhaaShelfZ
import Derived.Test.YtflonakoagjmhaaShelf
import Derived.Test.YtflonakoagjmhaaDigCmp2
import Derived.Shelf.SlSortCmp.NoneTotal
namespace Go.Proofs.Ytflonakoagjmhaa.Zn
open Go.RowKit Go.Lib Go.Sort Go.Shelf Go.Proofs.Ytflonakoagjmhaa

theorem below_putRow {α : Type} [Inhabited α] {B : Nat} {a w : World} (h : Below B a w) (enc : α → Value) (g off : Nat) (d : Array α) (hg : B ≤ g) : Below B a (putRow enc w g off d) :=
  ⟨h.os, h.tape, h.output, by simpa using h.size, fun k hk => by
    rw [← h.block k hk]
    unfold putRow mapBlock
    simp [Array.getElem?_modify, show g ≠ k by omega]⟩
theorem below_ahead {B : Nat} {a w : World} (h : Go.RowKit.Below B a w) (n : Nat) : Go.RowKit.Below B a (Sort.ahead w n) := ⟨h.os, h.tape, h.output, h.size, h.block⟩
theorem below_grow {B : Nat} {a w : World} (h : Below B a w) (hs : B ≤ w.heap.size) (os : Array Obj) : Below B a (grow w os) :=
  ⟨h.os, h.tape, h.output, by have := h.size; simp [grow]; omega, fun k hk => by
    rw [← h.block k hk]
    simp [grow, Array.getElem?_append, show k < w.heap.size by omega]⟩

set_option maxHeartbeats 1000000 in
theorem compareG (a b : ByteArray) (w : World) (ha : a.size ≤ maxLen) (hb : b.size ≤ maxLen) :
    Calls Try.prog 36 #[.string a, .string b] w fun e w' => e = .returned (.int .i64 (cmpS a b)) ∧ ∃ os', w' = grow w os' := by
  unfold maxLen at ha hb
  rcases Nat.lt_trichotomy a.size b.size with h | h | h
  · have HF := Lib.hid (cmp_shorter h)
    have h1 : ((a.size : Int) != b.size) = true := by simp; omega
    have h2 : ((a.size : Int) == b.size) = false := by simp; omega
    have hc : Lib.compareInt (a.size : Int) (b.size : Int) = -1 := by unfold Lib.compareInt; rw [if_pos (by omega)]
    have HC := Lib.hid hc; have H : Hid (a.size = a.size) := Lib.hid rfl
    clear hc h
    go_enter Try.func36, Try.ntmps36
    go_wp2_with (first
      | (go_at_call 50; refine (cmpInt_any _ _ _).mono ?_; rintro e w1 ⟨rfl, rfl⟩)
      | (go_at_call 39; refine (cmpStr_any _ _ _ ‹_›).mono ?_; rintro e w1 ⟨rfl, rfl⟩))
    go_ret
    exact ⟨ret_int (HC.out.trans HF.out.symm), _, by rw [alloc_eq_grow, alloc_eq_grow, grow_grow]⟩
  · have h1 : ((a.size : Int) != b.size) = false := by simp; omega
    have h2 : ((a.size : Int) == b.size) = true := by simp; omega
    have H := Lib.hid h; clear h
    cases g2 : (a.toList == b.toList) with
    | true =>
      have HF : Hid (cmpS a b = 0) := Lib.hid (cmp_same H.out (by rw [eq_of_beq g2]; exact less_irrefl _) g2)
      go_enter Try.func36, Try.ntmps36
      go_wp2_with (first
      | (go_at_call 50; refine (cmpInt_any _ _ _).mono ?_; rintro e w1 ⟨rfl, rfl⟩)
      | (go_at_call 39; refine (cmpStr_any _ _ _ H.out).mono ?_; rintro e w1 ⟨rfl, rfl⟩))
      go_ret
      exact ⟨ret_int (HF.out.symm), _, by rw [alloc_eq_grow, alloc_eq_grow, grow_grow]⟩
    | false =>
      go_enter Try.func36, Try.ntmps36
      go_wp2_with (first
      | (go_at_call 50; refine (cmpInt_any _ _ _).mono ?_; rintro e w1 ⟨rfl, rfl⟩)
      | (go_at_call 39; refine (cmpStr_any _ _ _ H.out).mono ?_; rintro e w1 ⟨rfl, rfl⟩))
      go_ret
      exact ⟨ret_int (rfl), _, by rw [alloc_eq_grow, alloc_eq_grow, grow_grow]⟩
  · have HF := Lib.hid (cmp_longer h)
    have h1 : ((a.size : Int) != b.size) = true := by simp; omega
    have h2 : ((a.size : Int) == b.size) = false := by simp; omega
    have hc : Lib.compareInt (a.size : Int) (b.size : Int) = 1 := by unfold Lib.compareInt; rw [if_neg (by omega), if_pos (by omega)]
    have HC := Lib.hid hc; have H : Hid (a.size = a.size) := Lib.hid rfl
    clear hc h
    go_enter Try.func36, Try.ntmps36
    go_wp2_with (first
      | (go_at_call 50; refine (cmpInt_any _ _ _).mono ?_; rintro e w1 ⟨rfl, rfl⟩)
      | (go_at_call 39; refine (cmpStr_any _ _ _ ‹_›).mono ?_; rintro e w1 ⟨rfl, rfl⟩))
    go_ret
    exact ⟨ret_int (HC.out.trans HF.out.symm), _, by rw [alloc_eq_grow, alloc_eq_grow, grow_grow]⟩

/-- A text that memory can hold. -/
abbrev Tb := {s : ByteArray // s.size ≤ maxLen}
instance : Inhabited Tb := ⟨⟨⟨#[]⟩, by decide⟩⟩
def encT (x : Tb) : Value := .string x.1
def cfT (x y : Tb) : Int := cmpS x.1 y.1
theorem ltT (x y : Tb) : ltOf cfT x y = decide (cmpS x.1 y.1 < 0) := rfl
theorem cmpS_self (a : ByteArray) : cmpS a a = 0 := by
  rcases cmp_three a a with ⟨-, h⟩ | ⟨h, -⟩ | ⟨-, h⟩
  · exact absurd h (lessS_irrefl a)
  · exact h
  · exact absurd h (lessS_irrefl a)
theorem cmpS_lt {a b : ByteArray} : cmpS a b < 0 ↔ lessS a b := by
  rcases cmp_three a b with ⟨h, h2⟩ | ⟨h, h2⟩ | ⟨h, h2⟩
  · simp [h, h2]
  · subst h2; simp [h, lessS_irrefl a]
  · constructor
    · intro h3; omega
    · intro h3; exact absurd (lessS_trans h3 h2) (lessS_irrefl a)
theorem swoT : SWO (ltOf cfT) where
  irrefl x := by rw [ltT, cmpS_self]; rfl
  trans x y z h1 h2 := by
    rw [ltT] at *
    simp only [decide_eq_true_eq] at *
    rw [cmpS_lt] at *
    exact lessS_trans h1 h2
  ntrans x y z h1 h2 := by
    rw [ltT] at *
    simp only [decide_eq_false_iff_not, Int.not_lt] at *
    exact cmp_trans_ge h1 h2
theorem cmpLT (blk off size : Nat) (w : World) : CmpLays1 Try.prog 36 #[] encT cfT blk off size w := fun _ _ _ _ x y => by
  refine (compareG x.1 y.1 _ x.2 y.2).mono ?_
  rintro e w' ⟨rfl, os, rfl⟩
  exact ⟨rfl, 0, os, rfl⟩
theorem holds_own {w : World} {base g cap n : Nat} {ty : TypeId} {L : List Tb} (hown : w.ownsRow base ty 1 (.slice (some ⟨g, 0, none⟩) n cap) n (L.map encT)) (hn : L.length = n) : Holds encT w g 0 L.toArray := by
  intro j hj
  rw [List.size_toArray] at hj
  refine ⟨?_, by rw [Nat.zero_add]; exact World.ownsRow.frozenAt hown j⟩
  rw [Nat.zero_add, World.ownsRow.cellAt hown j (by omega), List.getElem?_map, List.getElem?_eq_getElem hj, getElem!_pos _ _ (by simpa using hj)]
  simp
theorem perm_in {α : Type} [Inhabited α] {d d' : Array α} (h : PermIn 0 d.size d d') : d'.toList.Perm d.toList := by
  have h3 := h.2.2
  have e1 : d.extract 0 d.size = d := by simp
  have e2 : d'.extract 0 d.size = d' := by rw [← h.1]; simp
  rwa [e1, e2] at h3
theorem sorted_in {α : Type} [Inhabited α] {lt : α → α → Bool} {d d' : Array α} (hs : d'.size = d.size) (h : SortedIn lt 0 d.size d') : d'.toList.Pairwise fun x y => lt y x = false := by
  rw [List.pairwise_iff_getElem]
  intro i j hi hj hij
  have := h i j (Nat.zero_le _) hij (by rw [← hs]; simpa using hj)
  rw [getElem!_pos d' j (by simpa using hj), getElem!_pos d' i (by simpa using hi)] at this
  simpa using this
theorem tsR_of {w : World} {g : Nat} {d : Array Tb} (h : Holds encT w g 0 d) (hg : g < w.heap.size) : TsR w (some ⟨g, 0, none⟩) (d.toList.map (·.1)) := by
  intro k hk
  rw [List.length_map, Array.length_toList] at hk
  refine ⟨g, 0, rfl, hg, ?_⟩
  have h1 := (h k hk).1
  rw [h1, getElem!_pos d k hk]
  simp [encT, List.getD_eq_getElem?_getD, List.getElem?_map, hk]
set_option maxHeartbeats 4000000 in
/-- The prefixes are sorted. -/
theorem sortT_any {w : World} {base g cap n : Nat} {L : List Tb} (hown : w.ownsRow base 9 1 (.slice (some ⟨g, 0, none⟩) n cap) n (L.map encT)) (hn : L.length = n) (hsz : n ≤ 1000000) :
    Calls Try.prog 35 #[.slice (some ⟨g, 0, none⟩) n cap, .func (.func 36) #[] #[]] w fun e w' =>
      e = .returned (.tuple #[]) ∧ ∃ L' : List Tb, L'.Perm L ∧ (L'.Pairwise fun x y => ¬ lessS y.1 x.1) ∧ TsR w' (some ⟨g, 0, none⟩) (L'.map (·.1)) ∧ Below base w w' ∧ w.grownBy w' (some g) := by
  subst hn
  have hg := World.ownsRow.lt hown g rfl
  have hH := holds_own hown rfl
  have eg : ∀ args w, (callFunc 36 args).run Try.prog w = .ok (.enter 36 args) w := enters_of Try.func36 (by kernel_rfl) rfl
  have hcon := Any.slices_SortFunc Try.sortT encT (fun _ => rfl) cfT swoT 36 #[] g 0 cap L.toArray w eg (cmpLT g 0 L.toArray.size w) hH hg.2 (by rw [List.size_toArray]; omega)
  rw [List.size_toArray] at hcon
  change Calls Try.prog 35 _ _ _ at hcon
  refine hcon.mono ?_
  rintro e w' ⟨rfl, d', n, os, hp, hs, rfl⟩
  have hs1 : d'.size = L.toArray.size := hp.1
  have hp2 : PermIn 0 L.toArray.size L.toArray d' := by rw [List.size_toArray]; exact hp
  have hs2 : SortedIn (ltOf cfT) 0 L.toArray.size d' := by rw [List.size_toArray]; exact hs
  have hb : ∀ B, B ≤ g → B ≤ w.heap.size → Below B w (sortWorld encT w g 0 n d' os) := by
    intro B hB hBw
    unfold sortWorld
    exact below_grow (below_putRow (below_ahead (Below.refl _ w) n) _ _ _ _ hB) (by simp; exact hBw) os
  refine ⟨rfl, d'.toList, perm_in hp2, ?_, tsR_of ?_ ?_, hb base hg.1 (by omega), ?_⟩
  · refine (sorted_in hs1 hs2).imp ?_
    intro x y h
    rw [ltT] at h
    rw [← cmpS_lt]
    simpa using h
  · unfold sortWorld
    exact holds_grow _ _ _ _ _ _ (by unfold putRow; simp [mapBlock]; exact hg.2) (holds_putRow _ _ _ _ _ d' (show Holds encT (Sort.ahead w n) g 0 L.toArray from hH) hs1)
  · have : w.heap.size ≤ (sortWorld encT w g 0 n d' os).heap.size := (hb base hg.1 (by omega)).size
    omega
  · have h9 := hb base hg.1 (by omega)
    refine ⟨h9.os, h9.tape, h9.output, h9.size, fun k hk hne => ?_⟩
    have hkg : k ≠ g := fun e => hne (by rw [e])
    unfold sortWorld putRow mapBlock
    simp [grow, Array.getElem?_append, Array.getElem?_modify, hk, Ne.symm hkg, Sort.ahead]
    rw [Array.getElem_modify, if_neg (Ne.symm hkg)]
end Go.Proofs.Ytflonakoagjmhaa.Zn
