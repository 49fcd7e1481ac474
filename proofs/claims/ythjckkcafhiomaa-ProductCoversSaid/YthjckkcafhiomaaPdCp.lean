/- A row of bundles that the call owns, while their zones are copied one after the other. -/
import Derived.Test.YthjckkcafhiomaaPdS
import Derived.Deep.RegionHeld3
namespace Go.Proofs.Ythjckkcafhiomaa.Pd
open Go.RowKit

/-- Bundles with the same contents, wherever their zones lie. -/
structure DeepB (b b' : Bn) : Prop where
  (k : b'.k = b.k) (n : b'.n = b.n) (u : b'.u = b.u) (r : b'.r = b.r) (p : b'.p = b.p) (s : b'.s = b.s) (zs : b'.zs = b.zs)
theorem DeepB.refl (b : Bn) : DeepB b b := ⟨rfl, rfl, rfl, rfl, rfl, rfl, rfl⟩
structure DeepP (p p' : Pr) : Prop where
  (nm : p'.nm = p.nm) (fr : p'.fr = p.fr) (fe : p'.fe = p.fe) (ca : p'.ca = p.ca) (pr : p'.pr = p.pr) (n : p'.n = p.n) (len : p'.bs.length = p.bs.length)
  bs : ∀ j, j < p.bs.length → DeepB (p.bs.getD j bn0) (p'.bs.getD j bn0)
theorem DeepP.refl (p : Pr) : DeepP p p := ⟨rfl, rfl, rfl, rfl, rfl, rfl, rfl, fun _ _ => DeepB.refl _⟩
/-- A bundle whose zones lie elsewhere than in the blocks g and r. -/
def BnX (w : World) (g r : Nat) (b : Bn) : Prop := BnOk w b ∧ (b.zs ≠ [] → ∀ a, b.A = some a → a.block ≠ g ∧ a.block ≠ r)
theorem BnX.below {w w' : World} {g r : Nat} {b : Bn} (h : BnX w g r b) (hb : Below w.heap.size w w') : BnX w' g r b := ⟨h.1.below hb, h.2⟩
theorem BnX.keep {w w' : World} {g r : Nat} {b : Bn} (h : BnX w g r b) (hk : ∀ k, k ≠ g → k ≠ r → w'.heap[k]? = w.heap[k]?) (hs : w.heap.size ≤ w'.heap.size) : BnX w' g r b := by
  refine ⟨⟨h.1.len, h.1.cap, h.1.max, h.1.none, fun k hkl => ?_, h.1.few⟩, h.2⟩
  obtain ⟨b', off, e, h1, h2, h3⟩ := h.1.zs k hkl
  have hne := h.2 (by intro h; rw [h] at hkl; exact absurd hkl (Nat.not_lt_zero k)) _ e
  exact ⟨b', off, e, Nat.lt_of_lt_of_le h1 hs, (World.cell?_of_block (w := w) (a := ⟨b', off + k, none⟩) (hk b' hne.1 hne.2)).trans h2, h3⟩
theorem BnX.set {w : World} {g r : Nat} {b : Bn} (h : BnX w g r b) (i : Nat) (u : Value) : BnX (w.setCell ⟨g, i, none⟩ u) g r b :=
  h.keep (fun k h1 _ => Below.heap_setCell w ⟨g, i, none⟩ u k h1) (by simp [World.setCell])
theorem bsl_set : ∀ {l : List Bn} {k : Nat} {b : Bn} {A : Option Addr} {c : Nat}, k < l.length → l.getD k bn0 = b → (bsl l).set (k * 6 + 1) (.slice A b.n c) = bsl (l.set k { b with A := A, c := c })
  | [], k, _, _, _, h, _ => absurd h (Nat.not_lt_zero k)
  | r :: l, 0, b, A, c, _, hb => by
    obtain rfl : r = b := by simpa using hb
    simp [bsl, Bn.cells]
  | r :: l, k + 1, b, A, c, h, hb => by
    have := bsl_set (l := l) (k := k) (b := b) (A := A) (c := c) (by simpa using h) (by simpa using hb)
    rw [List.set_cons_succ]
    simp only [bsl, List.flatMap_cons] at this ⊢
    rw [← this, List.set_append_right _ _ (by simp [Bn.cells]; omega)]
    rw [show (k + 1) * 6 + 1 - r.cells.toList.length = k * 6 + 1 by simp [Bn.cells]; omega]
theorem getD_set_eq {l : List Bn} {k : Nat} (h : k < l.length) (b : Bn) : (l.set k b).getD k bn0 = b := by
  simp [List.getD, h]
theorem getD_set_ne {l : List Bn} {k j : Nat} (h : j ≠ k) (b : Bn) : (l.set k b).getD j bn0 = l.getD j bn0 := by
  simp [List.getD, List.getElem?_set, Ne.symm h]
/-- A row of bundles that the call owns reads as these bundles. -/
theorem bn_own {w : World} {base n : Nat} {v : Value} {l : List Bn} (h : w.ownsRow base 48 6 v n (bsl l)) (hn : l.length = n) (hl : ∀ j, j < n → BnOk w (l.getD j bn0)) : ∃ A c, v = .slice A n c ∧ n ≤ c ∧ c ≤ maxLen ∧ BnR w A l ∧ (A = none → n = 0) := by
  rcases h.2 with ⟨rfl, rfl⟩ | ⟨g, cap, cur, rfl, hb, hg, hnc, hcm, hcs, htake⟩
  · obtain rfl : l = [] := by simpa using hn
    exact ⟨none, 0, rfl, Nat.le_refl _, Nat.zero_le _, BnR.nil, fun _ => rfl⟩
  · refine ⟨_, cap, rfl, hnc, hcm, fun k hk => ?_, (by simp)⟩
    have hlt : g < w.heap.size := (Array.getElem?_eq_some_iff.1 hg).1
    refine ⟨g, 0, rfl, hlt, fun i hi => ?_, hl k (by omega)⟩
    have ha := bsl_at hk i hi
    rw [← htake, List.getElem?_take] at ha
    rw [if_pos (by omega)] at ha
    rw [Nat.zero_add, cell_of_row w g _ cur _ (0, 0) hg, ← ha]
    simp
theorem bn_six {w : World} {base g n cap : Nat} {l : List Bn} (h : w.ownsRow base 48 6 (.slice (some ⟨g, 0, none⟩) n cap) n (bsl l)) (hn : l.length = n) {k : Nat} (hk : k < n) : Six w g (k * 6) (l.getD k bn0).cells := fun i hi => by
  rw [World.ownsRow.cellAt h (k * 6 + i) (by omega), bsl_at (by omega) i hi]
/-- The state: the zones of the first k bundles are copied. -/
structure CpS (b0 g n c : Nat) (l : List Bn) (base k : Nat) (wr : World) (M : List Bn) : Prop where
  own : wr.ownsRow base 48 6 (.slice (some ⟨g, 0, none⟩) n c) n (bsl M)
  len : M.length = n
  deep : ∀ j, j < n → DeepB (l.getD j bn0) (M.getD j bn0)
  ok : ∀ j, j < n → BnX wr g (b0 + 1) (M.getD j bn0)
  gb : b0 + 1 < g
  new : ∀ j, j < k → (M.getD j bn0).zs ≠ [] → ∀ a, (M.getD j bn0).A = some a → b0 ≤ a.block
theorem CpS.below {b0 g n c base k : Nat} {l M : List Bn} {w w' : World} (h : CpS b0 g n c l base k w M) (hb : Below w.heap.size w w') : CpS b0 g n c l base k w' M :=
  ⟨own_keep h.own hb, h.len, h.deep, fun j hj => (h.ok j hj).below hb, h.gb, h.new⟩
theorem CpS.step {b0 g n c base : Nat} {l M : List Bn} {w : World} {k : Nat} {A : Option Addr} {m : Nat} (h : CpS b0 g n c l base k w M) (hk : k < n) (hm : (M.getD k bn0).n ≤ m) (hx : m ≤ maxLen) (hz : ZsR w A (M.getD k bn0).zs) (hA : A = none → (M.getD k bn0).n = 0) (hg : ∀ a, A = some a → (a.block ≠ g ∧ a.block ≠ b0 + 1) ∧ b0 ≤ a.block) :
    CpS b0 g n c l base (k + 1) (w.setCell ⟨g, k * 6 + 1, none⟩ (.slice A (M.getD k bn0).n m)) (M.set k { M.getD k bn0 with A := A, c := m }) := by
  have hkl : k < M.length := by rw [h.len]; exact hk
  obtain ⟨b, hb⟩ : ∃ b, M.getD k bn0 = b := ⟨_, rfl⟩
  have hok := h.ok k hk
  have hd := h.deep k hk
  rw [hb] at hm hz hA hok hd ⊢
  refine ⟨?_, by simpa using h.len, fun j hj => ?_, fun j hj => ?_, h.gb, fun j hj => ?_⟩
  · rw [← bsl_set hkl hb]
    exact (World.ownsRow.stored h.own _ _).1
  · by_cases e : j = k
    · subst e; rw [getD_set_eq hkl]; exact ⟨hd.k, hd.n, hd.u, hd.r, hd.p, hd.s, hd.zs⟩
    · rw [getD_set_ne e]; exact h.deep j hj
  · by_cases e : j = k
    · subst e
      rw [getD_set_eq hkl]
      exact BnX.set (b := { b with A := A, c := m }) ⟨⟨hok.1.len, hm, hx, hA, hz, hok.1.few⟩, fun _ a ha => (hg a ha).1⟩ _ _
    · rw [getD_set_ne e]; exact (h.ok j hj).set _ _
  · by_cases e : j = k
    · subst e; rw [getD_set_eq hkl]; exact fun _ a ha => (hg a ha).2
    · rw [getD_set_ne e]; exact h.new j (by omega)
/-- Six stores over a block of six cells. -/
theorem put6 {w : World} {g : Nat} {t : TypeId} {z0 z1 z2 z3 z4 z5 a b c d e f : Value} (h : Blk w g t #[z0, z1, z2, z3, z4, z5]) :
    Blk ((((((w.setCell ⟨g, 0, none⟩ a).setCell ⟨g, 1, none⟩ b).setCell ⟨g, 2, none⟩ c).setCell ⟨g, 3, none⟩ d).setCell ⟨g, 4, none⟩ e).setCell ⟨g, 5, none⟩ f) g t #[a, b, c, d, e, f] := by
  have := (((((h.set_ 0 a).set_ 1 b).set_ 2 c).set_ 3 d).set_ 4 e).set_ 5 f
  simpa using this
theorem below6 {B : Nat} {w0 w : World} {g : Nat} {a b c d e f : Value} (h : Below B w0 w) (hg : B ≤ g) :
    Below B w0 ((((((w.setCell ⟨g, 0, none⟩ a).setCell ⟨g, 1, none⟩ b).setCell ⟨g, 2, none⟩ c).setCell ⟨g, 3, none⟩ d).setCell ⟨g, 4, none⟩ e).setCell ⟨g, 5, none⟩ f) := by
  repeat' apply Below.setCell
  all_goals first | exact h | exact hg
theorem keep6 {w : World} {g k : Nat} {a b c d e f : Value} (h : k ≠ g) :
    ((((((w.setCell ⟨g, 0, none⟩ a).setCell ⟨g, 1, none⟩ b).setCell ⟨g, 2, none⟩ c).setCell ⟨g, 3, none⟩ d).setCell ⟨g, 4, none⟩ e).setCell ⟨g, 5, none⟩ f).heap[k]? = w.heap[k]? := by
  repeat rw [Below.heap_setCell _ _ _ k h]
/-- What six stores over a block leave. -/
structure Put (g : Nat) (t : TypeId) (cs : Array Value) (w w' : World) : Prop where
  blk : Blk w' g t cs
  os : w'.os = w.os
  tape : w'.tape = w.tape
  output : w'.output = w.output
  size : w'.heap.size = w.heap.size
  keep : ∀ k, k ≠ g → w'.heap[k]? = w.heap[k]?
theorem set_os (w : World) (a : Addr) (u : Value) : (w.setCell a u).os = w.os := rfl
theorem set_tape (w : World) (a : Addr) (u : Value) : (w.setCell a u).tape = w.tape := rfl
theorem set_output (w : World) (a : Addr) (u : Value) : (w.setCell a u).output = w.output := rfl
theorem set_size (w : World) (a : Addr) (u : Value) : (w.setCell a u).heap.size = w.heap.size := by simp [World.setCell]
theorem put6_all {w : World} {g : Nat} {t : TypeId} {z0 z1 z2 z3 z4 z5 : Value} (h : Blk w g t #[z0, z1, z2, z3, z4, z5]) (a b c d e f : Value) :
    Put g t #[a, b, c, d, e, f] w ((((((w.setCell ⟨g, 0, none⟩ a).setCell ⟨g, 1, none⟩ b).setCell ⟨g, 2, none⟩ c).setCell ⟨g, 3, none⟩ d).setCell ⟨g, 4, none⟩ e).setCell ⟨g, 5, none⟩ f) :=
  ⟨put6 h, by simp only [set_os], by simp only [set_tape], by simp only [set_output], by simp only [set_size], fun _ hk => keep6 hk⟩
theorem Put.below {g B : Nat} {t : TypeId} {cs : Array Value} {w0 w w' : World} (h : Put g t cs w w') (hb : Below B w0 w) (hg : B ≤ g) : Below B w0 w' :=
  ⟨h.os.trans hb.os, h.tape.trans hb.tape, h.output.trans hb.output, by rw [h.size]; exact hb.size, fun k hk => (h.keep k (by omega)).trans (hb.block k hk)⟩
theorem own_formN {w : World} {base e size : Nat} {v : Value} {n : Nat} {xs : List Value} (h : w.ownsRow base e size v n xs) :
    ∃ A c, v = .slice A n c ∧ n ≤ c ∧ c ≤ maxLen ∧ (0 < n → ∃ g, A = some ⟨g, 0, none⟩ ∧ base ≤ g ∧ g < w.heap.size) := by
  rcases h.2 with ⟨rfl, rfl⟩ | ⟨g, cap, cur, rfl, hb, hg, hnc, hcm, hcs, htake⟩
  · exact ⟨none, 0, rfl, Nat.le_refl _, by decide, fun h => absurd h (by omega)⟩
  · exact ⟨_, _, rfl, hnc, hcm, fun _ => ⟨g, rfl, hb, (Array.getElem?_eq_some_iff.1 hg).1⟩⟩
/-- Whatever a product refers to lies from base on. -/
structure PrNew (base : Nat) (p : Pr) : Prop where
  top : p.bs ≠ [] → ∀ a, p.A = some a → base ≤ a.block
  sub : ∀ j, j < p.bs.length → (p.bs.getD j bn0).zs ≠ [] → ∀ a, (p.bs.getD j bn0).A = some a → base ≤ a.block
theorem PrNew.keep {base : Nat} {p : Pr} {w w' : World} (h : PrNew base p) (ho : PrOk w p) (hk : ∀ k, base ≤ k → w'.heap[k]? = w.heap[k]?) (hs : w.heap.size ≤ w'.heap.size) : PrOk w' p := by
  refine ⟨ho.len, ho.cap, ho.max, ho.none, fun k hkl => ?_, ho.nm, ho.ca⟩
  obtain ⟨b, off, e, h1, h2, h3⟩ := ho.bs k hkl
  have hb : base ≤ b := h.top (by intro h; rw [h] at hkl; exact absurd hkl (Nat.not_lt_zero k)) _ e
  refine ⟨b, off, e, Nat.lt_of_lt_of_le h1 hs, fun i hi => (World.cell?_of_block (w := w) (a := ⟨b, off + k * 6 + i, none⟩) (hk b hb)).trans (h2 i hi), ⟨h3.len, h3.cap, h3.max, h3.none, fun j hj => ?_, h3.few⟩⟩
  obtain ⟨b', off', e', g1, g2, g3⟩ := h3.zs j hj
  have hb' : base ≤ b' := h.sub k hkl (by intro h; rw [h] at hj; exact absurd hj (Nat.not_lt_zero j)) _ e'
  exact ⟨b', off', e', Nat.lt_of_lt_of_le g1 hs, (World.cell?_of_block (w := w) (a := ⟨b', off' + j, none⟩) (hk b' hb')).trans g2, g3⟩
/-- What a copy is. -/
def CpOut (p : Pr) (w : World) (e : Ending) (w' : World) : Prop :=
  ∃ p', e = .returned (.agg p'.cells) ∧ PrOk w' p' ∧ DeepP p p' ∧ PrNew w.heap.size p' ∧ Below w.heap.size w w'
end Go.Proofs.Ythjckkcafhiomaa.Pd
