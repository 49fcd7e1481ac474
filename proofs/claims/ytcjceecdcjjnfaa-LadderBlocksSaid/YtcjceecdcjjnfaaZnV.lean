/- Lists of zones in memory; the prefixes of a zone are added to a map. -/
import Derived.Test.YtcjceecdcjjnfaaZnL
import Derived.Test.YtcjceecdcjjnfaaDigV
import Derived.Lib.Hide
namespace Go.Proofs.Ytcjceecdcjjnfaa.Zn
open Go Go.Maps Go.RowKit Go.Proofs.Ytcjceecdcjjnfaa

/-- A zone in memory. -/
structure Zm where
  nm : ByteArray
  ps : List ByteArray
def Zm.zo (z : Zm) : Zo := ⟨z.nm.data.toList, z.ps.map fun p => p.data.toList⟩
def zm0 : Zm := ⟨⟨#[]⟩, []⟩
/-- A slice that reads as a list of texts. -/
def TsR (w : World) (P : Option Addr) (l : List ByteArray) : Prop := ∀ k, k < l.length → ∃ b off, P = some ⟨b, off, none⟩ ∧ b < w.heap.size ∧ w.cell? ⟨b, off + k, none⟩ = some (.string (l.getD k ⟨#[]⟩))
theorem TsR.keep {w w' : World} {P : Option Addr} {l : List ByteArray} (h : TsR w P l) (hs : w.heap.size ≤ w'.heap.size) (hb : ∀ a, P = some a → a.block < w.heap.size → w'.heap[a.block]? = w.heap[a.block]?) : TsR w' P l := fun k hk => by
  obtain ⟨b, off, e, h1, h2⟩ := h k hk
  exact ⟨b, off, e, Nat.lt_of_lt_of_le h1 hs, (World.cell?_of_block (w := w) (a := ⟨b, off + k, none⟩) (hb ⟨b, off, none⟩ e h1)).trans h2⟩
theorem TsR.below {w w' : World} {P : Option Addr} {l : List ByteArray} (h : TsR w P l) (hb : Below w.heap.size w w') : TsR w' P l := h.keep hb.size (fun a _ ha => hb.block _ ha)
/-- A slice that reads as a list of zones. -/
def ZsR (w : World) (A : Option Addr) (l : List Zm) : Prop := ∀ k, k < l.length → ∃ b off P c, A = some ⟨b, off, none⟩ ∧ b < w.heap.size ∧ w.cell? ⟨b, off + k * 2, none⟩ = some (.string (l.getD k zm0).nm) ∧ w.cell? ⟨b, off + k * 2 + 1, none⟩ = some (.slice P (l.getD k zm0).ps.length c) ∧
  (l.getD k zm0).ps.length ≤ c ∧ c ≤ maxLen ∧ TsR w P (l.getD k zm0).ps ∧ (∀ a, P = some a → 0 < (l.getD k zm0).ps.length → a.block < w.heap.size)
theorem ZsR.below {w w' : World} {A : Option Addr} {l : List Zm} (h : ZsR w A l) (hb : Below w.heap.size w w') : ZsR w' A l := fun k hk => by
  obtain ⟨b, off, P, c, e, h1, h2, h3, h4, h5, h6, h7⟩ := h k hk
  exact ⟨b, off, P, c, e, Nat.lt_of_lt_of_le h1 hb.size, (hb.cell (p := ⟨b, off + k * 2, none⟩) h1).trans h2, (hb.cell (p := ⟨b, off + k * 2 + 1, none⟩) h1).trans h3, h4, h5, h6.below hb, fun a ha hq => Nat.lt_of_lt_of_le (h7 a ha hq) hb.size⟩
theorem gr_trans {a b c : World} {row : Option Nat} (h : a.grownBy b row) (k : b.grownBy c row) : a.grownBy c row :=
  ⟨k.os.trans h.os, k.tape.trans h.tape, k.output.trans h.output, Nat.le_trans h.size k.size, fun i hi hr => (k.block i (Nat.lt_of_lt_of_le hi h.size) hr).trans (h.block i hi hr)⟩
/-- The prefixes of a zone are added, up to the first error. -/
def adP (nm : Wd) (L : List (Wd × Wd)) : List Wd → Int × List (Wd × Wd)
  | [] => (0, L)
  | p :: t => if numB p = false then (12, L) else if (val L p).isSome = true then (10, L) else adP nm (L ++ [(p, nm)]) t
def adZ (L : List (Wd × Wd)) (z : Zo) : Int × List (Wd × Wd) := if z.ps.length = 0 then (8, L) else if 64 < z.ps.length then (5, L) else adP z.nm L z.ps
def Named (L : List (Wd × Wd)) : Prop := ∀ p n, (p, n) ∈ L → n ≠ []
theorem Named.snoc {L : List (Wd × Wd)} (h : Named L) {p n : Wd} (hn : n ≠ []) : Named (L ++ [(p, n)]) := by
  intro q m hm
  rcases List.mem_append.1 hm with hm | hm
  · exact h q m hm
  · have := List.mem_singleton.1 hm
    injection this with h1 h2
    rw [h2]; exact hn
theorem adP_named {nm : Wd} (hn : nm ≠ []) : ∀ (ps : List Wd) (L : List (Wd × Wd)), Named L → Named (adP nm L ps).2
  | [], L, h => h
  | p :: t, L, h => by
    rw [adP]
    split
    · exact h
    · split
      · exact h
      · exact adP_named hn t _ (h.snoc hn)
theorem adZ_named {L : List (Wd × Wd)} {z : Zo} (hn : z.nm ≠ []) (h : Named L) : Named (adZ L z).2 := by
  unfold adZ
  split
  · exact h
  · split
    · exact h
    · exact adP_named hn _ _ h
def AddOut (L : List (Wd × Wd)) (z : Zo) (b n : Nat) (w : World) (e : Ending) (w' : World) : Prop := e = .returned (.int .i64 (adZ L z).1) ∧ SMap w' b (n + z.ps.length) (adZ L z).2 ∧ w.grownBy w' (some b)
theorem SMap.mono {w : World} {b n m : Nat} {L : List (Wd × Wd)} (h : SMap w b n L) (hn : n ≤ m) : SMap w b m L := by
  obtain ⟨D, h1, h2⟩ := h
  exact ⟨D, h1.mono hn, h2⟩
theorem none_str {v : ByteArray} (h : v.data.toList = []) : v = ⟨#[]⟩ := by
  obtain ⟨⟨l⟩⟩ := v
  have : l = [] := h
  rw [this]
theorem some_str {v : ByteArray} (h : v.data.toList ≠ []) : v.toList.isEmpty = false := by
  rw [ByteArray.toList_eq]
  cases hv : v.data.toList with
  | nil => exact absurd hv h
  | cons x t => rfl
end Go.Proofs.Ytcjceecdcjjnfaa.Zn
