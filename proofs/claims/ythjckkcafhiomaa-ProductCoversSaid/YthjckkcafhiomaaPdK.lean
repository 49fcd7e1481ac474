/- slices.Compact of a row of texts that the call owns. -/
import Derived.Test.YthjckkcafhiomaaPdS
namespace Go.Proofs.Ythjckkcafhiomaa.Pd
open Go.RowKit Go.Lib Go.Sort

theorem below_putRow {α : Type} [Inhabited α] {B : Nat} {a w : World} (h : Below B a w) (enc : α → Value) (g off : Nat) (d : Array α) (hg : B ≤ g) : Below B a (putRow enc w g off d) :=
  ⟨h.os, h.tape, h.output, by simpa using h.size, fun k hk => by
    rw [← h.block k hk]
    unfold putRow mapBlock
    simp [Array.getElem?_modify, show g ≠ k by omega]⟩
theorem below_ahead {B : Nat} {a w : World} (h : Go.RowKit.Below B a w) (n : Nat) : Go.RowKit.Below B a (Sort.ahead w n) := ⟨h.os, h.tape, h.output, h.size, h.block⟩
theorem enc_of (s : ByteArray) : encStr s.data.toList = .string s := by
  obtain ⟨⟨l⟩⟩ := s
  rfl
/-- Texts, of which no two neighbours are equal. -/
def cmpl (l : List ByteArray) : List ByteArray := (Lib.compact (l.map fun s => s.data.toList)).map fun x => ⟨x.toArray⟩
theorem compact_len (l : List (List UInt8)) : (Lib.compact l).length ≤ l.length := by
  have h := List.length_filter_le (Lib.keeps l.toArray) (List.range l.length)
  simpa [Lib.compact, Lib.compactUpTo] using h
theorem compact_mem {l : List (List UInt8)} {x : List UInt8} (h : x ∈ Lib.compact l) : x ∈ l := by
  unfold Lib.compact Lib.compactUpTo at h
  obtain ⟨j, hj, rfl⟩ := List.mem_map.1 h
  have hj := List.mem_range.1 (List.mem_filter.1 hj).1
  rw [getElem!_pos l.toArray j (by simpa using hj)]
  simp
theorem cmpl_len (l : List ByteArray) : (cmpl l).length ≤ l.length := by
  unfold cmpl
  have := compact_len (l.map fun s => s.data.toList)
  simpa using this
theorem cmpl_mem {l : List ByteArray} {x : ByteArray} (h : x ∈ cmpl l) : x ∈ l := by
  unfold cmpl at h
  obtain ⟨y, hy, rfl⟩ := List.mem_map.1 h
  obtain ⟨s, hs, rfl⟩ := List.mem_map.1 (compact_mem hy)
  exact hs
theorem holdsS {w : World} {base g cap n : Nat} {l : List ByteArray} (hown : w.ownsRow base 9 1 (.slice (some ⟨g, 0, none⟩) n cap) n (l.map Value.string)) (hn : l.length = n) : Holds encStr w g 0 (l.map fun s => s.data.toList).toArray := by
  intro j hj
  rw [List.size_toArray, List.length_map, hn] at hj
  refine ⟨?_, by rw [Nat.zero_add]; exact World.ownsRow.frozenAt hown j⟩
  rw [Nat.zero_add, World.ownsRow.cellAt hown j (by omega), getElem!_pos _ j (by rw [List.size_toArray, List.length_map]; omega)]
  simp [List.getElem?_eq_getElem (show j < l.length by omega), enc_of]
theorem zsS {w : World} {g : Nat} {l : List ByteArray} {m : List (List UInt8)} (h : Holds encStr w g 0 ((l.map fun s => s.data.toList) ++ m).toArray) (hg : g < w.heap.size) (hs : ∀ s ∈ l, s.size ≤ maxLen) : ZsR w (some ⟨g, 0, none⟩) l := by
  intro k hk
  have := (h k (by rw [List.size_toArray, List.length_append, List.length_map]; omega)).1
  rw [getElem!_pos _ k (by rw [List.size_toArray, List.length_append, List.length_map]; omega)] at this
  have e : l.getD k zs0 = l[k] := by simp [List.getD, List.getElem?_eq_getElem hk]
  refine ⟨g, 0, rfl, hg, this.trans ?_, by rw [e]; exact hs _ (List.getElem_mem _)⟩
  rw [e]
  simp [List.getElem_append_left (show k < (l.map fun s => s.data.toList).length by simpa using hk), enc_of]
/-- What Compact gives. -/
def CmOut (A : Option Addr) (c base : Nat) (L : List ByteArray) (w : World) (e : Ending) (w' : World) : Prop :=
  e = .returned (.slice A L.length c) ∧ L.length ≤ c ∧ c ≤ maxLen ∧ ZsR w' A L ∧ Below base w w'
theorem comp_any {A : Option Addr} {n c base : Nat} {l : List ByteArray} {w : World} (hown : w.ownsRow base 9 1 (.slice A n c) n (l.map Value.string)) (hn : l.length = n) (hsz : n ≤ 1000000) (hs : ∀ s ∈ l, s.size ≤ maxLen) (hb : base ≤ w.heap.size) :
    Calls Try.prog 30 #[.slice A n c] w (CmOut A c base (cmpl l) w) := by
  by_cases h0 : n = 0
  · subst h0
    obtain rfl : l = [] := by simpa using hn
    have hc : c ≤ maxLen := by
      rcases hown.2 with ⟨h, _⟩ | ⟨g, cap, cur, h, _, _, _, h1, _⟩
      · injection h with _ _ h; subst h; decide
      · injection h with _ _ h; subst h; exact h1
    refine (Try.slices_Compact_string_empty A c w).mono ?_
    rintro e w' ⟨rfl, rfl⟩
    exact ⟨rfl, Nat.zero_le _, hc, ZsR.nil, ⟨rfl, rfl, rfl, Nat.le_refl _, fun _ _ => rfl⟩⟩
  · rcases hown.2 with ⟨h, h2⟩ | ⟨g, cap, cur, h, h1, hg, hnc, hcm, _⟩
    · injection h with _ h; exact absurd h (by simpa using h0)
    · injection h with h3 h4 h5
      subst h3 h5
      have hgl := World.ownsRow.lt hown g rfl
      have hH := holdsS hown hn
      have hl : (l.map fun s => s.data.toList).length = n := by simpa using hn
      have := Try.slices_Compact_string g 0 c (l.map fun s => s.data.toList) w hH (by omega) (by omega)
      rw [hl] at this
      refine this.mono ?_
      rintro e w' ⟨rfl, q, rfl⟩
      have hcl := compact_len (l.map fun s => s.data.toList)
      have hL : (cmpl l).length = (Lib.compact (l.map fun s => s.data.toList)).length := by unfold cmpl; simp
      have hmap : (cmpl l).map (fun s => s.data.toList) = Lib.compact (l.map fun s => s.data.toList) := by
        unfold cmpl
        rw [List.map_map]
        simp [Function.comp_def]
      refine ⟨by rw [hL], by rw [hL]; omega, hcm, ?_, below_putRow (below_ahead ((Below.refl _ w).mono hb) q) _ _ _ _ hgl.1⟩
      refine zsS (m := List.replicate (n - (Lib.compact (l.map fun s => s.data.toList)).length) []) ?_ (by simp; exact hgl.2) (fun s hs' => hs s (cmpl_mem hs'))
      rw [hmap]
      exact holds_putRow _ _ _ _ _ _ hH (by simp; omega)
end Go.Proofs.Ythjckkcafhiomaa.Pd
