/- What the laws on zones ask of the contracts. -/
import Derived.Test.YtflonakoagjmhaaZnAw
namespace Go.Proofs.Ytflonakoagjmhaa.Zn
open Go.RowKit Go.Lib Go.Shelf Go.Proofs.Ytflonakoagjmhaa Go.Maps

theorem few_dec (l : List Zm) : ∃ v : Bool, v = true ↔ FewP l := by
  by_cases h : FewP l
  · exact ⟨true, by simp [h]⟩
  · exact ⟨false, by simp [h]⟩
abbrev Big (l : List Zm) : Prop := ∀ z ∈ l, z.ps.length ≤ 8796093021952 ∧ z.nm.size ≤ maxLen ∧ ∀ p ∈ z.ps, p.size ≤ maxLen
/-- The names of a valid list, in order; of another one none. -/
def NmL (l : List Zo) (L : List ByteArray) : Prop := if ckZ l = 0 then (L.map fun s => s.data.toList).Pairwise ltN ∧ ∀ n, n ∈ L.map (fun s => s.data.toList) ↔ n ∈ nms l else L = []
theorem map_inj : ∀ {p q : List ByteArray}, p.map (fun s => s.data.toList) = q.map (fun s => s.data.toList) → p = q
  | [], [], _ => rfl
  | [], _ :: _, h => by cases h
  | _ :: _, [], h => by cases h
  | x :: p, y :: q, h => by
    rw [List.map_cons, List.map_cons] at h
    injection h with h7 h8
    rw [ba_ext h7, map_inj h8]
theorem NmL.eq {l : List Zo} {L M : List ByteArray} (h : NmL l L) (k : NmL l M) : L = M := by
  unfold NmL at h k
  by_cases h0 : ckZ l = 0
  · rw [if_pos h0] at h k
    exact map_inj (asc_unique ltN_irr ltN_asym h.1 k.1 fun x => by rw [h.2, k.2])
  · rw [if_neg h0] at h k
    rw [h, k]
def NmO (l : List Zo) (w : World) (e : Ending) (w' : World) : Prop := ∃ (A : Option Addr) (N c : Nat) (L : List ByteArray), e = .returned (.slice A N c) ∧ L.length = N ∧ N ≤ 1000000 ∧ TsR w' A L ∧ NmL l L ∧ Below w.heap.size w w'
theorem nm_out {l : List Zo} {w w' : World} {e : Ending} (h : NmOut l w e w') (h70 : l.length ≤ 70) : NmO l w e w' := by
  unfold NmOut at h
  by_cases h0 : ckZ l = 0
  · rw [if_pos h0] at h
    obtain ⟨A, c, L, rfl, h1, h2, h3, h4, h5, h6, h7⟩ := h
    exact ⟨A, L.length, c, L, rfl, rfl, by omega, h3, by unfold NmL; rw [if_pos h0]; exact ⟨h4, h5⟩, h7⟩
  · rw [if_neg h0] at h
    obtain ⟨rfl, h7⟩ := h
    exact ⟨none, 0, 0, [], rfl, rfl, by omega, fun k hk => absurd hk (Nat.not_lt_zero k), by unfold NmL; rw [if_neg h0], h7⟩
/-- The minimal list of a valid one; of another one nothing. -/
def MnL (l : List Zo) (M : List Zm) : Prop := if ckZ l = 0 then MinL l (zos M) else M = []
theorem MnL.eq {l : List Zo} {M N : List Zm} (h : MnL l M) (k : MnL l N) : M = N := by
  unfold MnL at h k
  by_cases h0 : ckZ l = 0
  · rw [if_pos h0] at h k
    exact zos_inj.1 (canon_unique h k)
  · rw [if_neg h0] at h k
    rw [h, k]
def MnO (l : List Zo) (w : World) (e : Ending) (w' : World) : Prop := ∃ (A : Option Addr) (N c : Nat) (M : List Zm), e = .returned (.slice A N c) ∧ M.length = N ∧ N ≤ 64 ∧ N ≤ c ∧ c ≤ maxLen ∧ ZsR w' A M ∧ Fit M ∧ MnL l M ∧ Below w.heap.size w w'
theorem mn_out {l : List Zo} {w w' : World} {e : Ending} (h : MnOut l w e w') : MnO l w e w' := by
  unfold MnOut at h
  by_cases h0 : ckZ l = 0
  · rw [if_pos h0] at h
    obtain ⟨A, c, M, rfl, h1, h2, h3, h4, h5, h6, h7⟩ := h
    exact ⟨A, M.length, c, M, rfl, rfl, by rw [h6]; exact (ck_vld.1 h0).len, h1, h2, h3, h5, by unfold MnL; rw [if_pos h0]; exact h4, h7⟩
  · rw [if_neg h0] at h
    obtain ⟨rfl, h7⟩ := h
    exact ⟨none, 0, 0, [], rfl, rfl, by omega, Nat.le_refl _, by decide, (fun k hk => absurd hk (Nat.not_lt_zero k)), (fun z hz => by cases hz), by unfold MnL; rw [if_neg h0], h7⟩
theorem texts_ok (A B : Option Addr) (n c m d : Nat) (l q : List ByteArray) (w : World) (hA : TsR w A l) (hn : l.length = n) (hB : TsR w B q) (hm : q.length = m) (h6 : n ≤ 1000000) (he : l = q) :
    Calls Try.prog 13 #[.slice A n c, .slice B m d] w fun e w' => e = .returned (.bool true) ∧ Below w.heap.size w w' := by
  have h := texts_any A B n c m d l q w hA hn hB hm h6 true (by simp [he]) 0
  rw [World.drewN_zero] at h
  refine h.mono ?_
  rintro e w' ⟨rfl, t, rfl⟩
  exact ⟨rfl, below_drewN (Below.refl _ _) t⟩
theorem find_is (A : Option Addr) (n c : Nat) (l : List Zm) (s V : ByteArray) (b : Bool) (w : World) (hA : ZsR w A l) (hn : l.length = n) (hc : n ≤ c) (hm : c ≤ maxLen) (hf : Fit l) (hs : s.size ≤ maxLen) (hV : fnd (zos l) s.data.toList = V.data.toList) (hb : (!V.data.toList.isEmpty) = b) :
    Calls Try.prog 16 #[.slice A n c, .string s] w fun e w' => e = .returned (.tuple #[.string V, .bool b]) ∧ Below w.heap.size w w' := aw_find hA hn hc hm hf s V b hs hV hb
theorem refFind_is (A : Option Addr) (n c : Nat) (l : List Zm) (s V : ByteArray) (b : Bool) (w : World) (hA : ZsR w A l) (hn : l.length = n) (hc : n ≤ c) (hm : c ≤ maxLen) (hf : Fit l) (hs : s.size ≤ maxLen) (hV : fnd (zos l) s.data.toList = V.data.toList) (hb : (!V.data.toList.isEmpty) = b) :
    Calls Try.prog 17 #[.slice A n c, .string s] w fun e w' => e = .returned (.tuple #[.string V, .bool b]) ∧ Below w.heap.size w w' := by
  refine (refFnd_any A n c l s w hA hn hc hm hf hs).mono ?_
  rintro e w' ⟨v, rfl, hv, -, hb2⟩
  rw [hV] at hv ⊢
  rw [ba_ext hv, hb]
  exact ⟨rfl, hb2⟩
theorem ba_of (l : Wd) : ∃ V : ByteArray, l = V.data.toList := ⟨⟨⟨l⟩⟩, rfl⟩
end Go.Proofs.Ytflonakoagjmhaa.Zn
