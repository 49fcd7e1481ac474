/- Expressions that are built one around the other. -/
import Derived.Test.YtolgfkkjbefecaaCkF
namespace Go.Proofs.Ytolgfkkjbefecaa.Ck
open Go Go.Lib Go.RowKit Go.Proofs.Ytolgfkkjbefecaa Go.Maps

/-- A slice that reads as a list of expressions, all in blocks behind g. -/
def XG (g : Nat) (w : World) : Nat → Option Addr → List Ex → Prop
  | 0, _, args => args = []
  | d + 1, A, args => ∀ i, i < args.length → ∃ (b off : Nat) (o n : Int) (t : ByteArray) (us : List Ex) (A' : Option Addr) (c' : Nat), A = some ⟨b, off, none⟩ ∧ g < b ∧ b < w.heap.size ∧ args[i]? = some (.mk o n t us) ∧
      w.cell? ⟨b, off + i * 4, none⟩ = some (.int .i64 o) ∧ w.cell? ⟨b, off + i * 4 + 1, none⟩ = some (.int .i64 n) ∧ w.cell? ⟨b, off + i * 4 + 2, none⟩ = some (.string t) ∧ w.cell? ⟨b, off + i * 4 + 3, none⟩ = some (.slice A' us.length c') ∧
      us.length ≤ c' ∧ c' ≤ maxLen ∧ t.size ≤ maxLen ∧ XG g w d A' us
theorem XG.xa {g : Nat} {w : World} : ∀ {d : Nat} {A : Option Addr} {args : List Ex}, XG g w d A args → XA w d A args
  | 0, _, _, h => h
  | d + 1, A, args, h => fun i hi => by
    obtain ⟨b, off, o, n, t, us, A', c', h1, _, h2, h3, h4, h5, h6, h7, h8, h9, h10, h11⟩ := h i hi
    exact ⟨b, off, o, n, t, us, A', c', h1, h2, h3, h4, h5, h6, h7, h8, h9, h10, h11.xa⟩
theorem XG.keep {g : Nat} {w w' : World} (hs : w.heap.size ≤ w'.heap.size) (hk : ∀ b, g < b → b < w.heap.size → w'.heap[b]? = w.heap[b]?) : ∀ {d : Nat} {A : Option Addr} {args : List Ex}, XG g w d A args → XG g w' d A args
  | 0, _, _, h => h
  | d + 1, A, args, h => fun i hi => by
    obtain ⟨b, off, o, n, t, us, A', c', h1, h0, h2, h3, h4, h5, h6, h7, h8, h9, h10, h11⟩ := h i hi
    have e : ∀ p, w'.cell? ⟨b, p, none⟩ = w.cell? ⟨b, p, none⟩ := fun p => World.cell?_of_block (a := ⟨b, p, none⟩) (hk b h0 h2)
    exact ⟨b, off, o, n, t, us, A', c', h1, h0, Nat.lt_of_lt_of_le h2 hs, h3, (e _).trans h4, (e _).trans h5, (e _).trans h6, (e _).trans h7, h8, h9, h10, h11.keep hs hk⟩
theorem XG.nil (g : Nat) (w : World) (d : Nat) (A : Option Addr) : XG g w d A [] := by
  cases d with
  | zero => rfl
  | succ d => exact fun i hi => absurd hi (Nat.not_lt_zero i)
theorem XG.more {g : Nat} {w : World} : ∀ {d : Nat} {A : Option Addr} {args : List Ex}, XG g w d A args → XG g w (d + 1) A args
  | 0, _, _, h => by cases h; exact XG.nil _ _ _ _
  | d + 1, A, args, h => fun i hi => by
    obtain ⟨b, off, o, n, t, us, A', c', h1, h0, h2, h3, h4, h5, h6, h7, h8, h9, h10, h11⟩ := h i hi
    exact ⟨b, off, o, n, t, us, A', c', h1, h0, h2, h3, h4, h5, h6, h7, h8, h9, h10, h11.more⟩
def fam : ByteArray := ⟨#[102, 97, 109, 105, 108, 121]⟩
/-- An expression in so many others. -/
def dE (num : Bool) : Nat → Ex
  | 0 => if num = true then .mk 1 7 ⟨#[]⟩ [] else .mk 3 0 ⟨#[102, 97, 109, 105, 108, 121]⟩ []
  | i + 1 => if num = true then .mk 11 0 ⟨#[]⟩ [dE num i, .mk 1 (i : Nat) ⟨#[]⟩ []] else .mk 4 0 ⟨#[]⟩ [dE num i]
theorem dE_sort (num : Bool) (n : Fin 41) : sortX 16 (dE num n.1) = if 16 ≤ n.1 then (0, 24) else if num = true then (1, 0) else (3, 0) := by
  revert num n; decide +kernel
/-- The i-th of them, in a block. -/
def DE (g : Nat) (num : Bool) (i : Nat) (w : World) : Prop := ∃ (op nm : Int) (tx : ByteArray) (us : List Ex) (A : Option Addr) (m c d : Nat), dE num i = .mk op nm tx us ∧ Blk w g 24 #[.int .i64 op, .int .i64 nm, .string tx, .slice A m c] ∧ us.length = m ∧ m ≤ c ∧ c ≤ maxLen ∧ tx.size ≤ maxLen ∧ XG g w d A us
theorem put4 {w : World} {g : Nat} {t : TypeId} {a b c d : Value} (h : Blk w g t #[a, b, c, d]) (a' b' c' d' : Value) : Blk ((((w.setCell ⟨g, 0, none⟩ a').setCell ⟨g, 1, none⟩ b').setCell ⟨g, 2, none⟩ c').setCell ⟨g, 3, none⟩ d') g t #[a', b', c', d'] :=
  (((h.set_ 0 a').set_ 1 b').set_ 2 c').set_ 3 d'
/-- The cells that four stores into a block ask for, one after the other. -/
theorem ask4 {w : World} {g : Nat} {t : TypeId} {a b c d : Value} (h : Blk w g t #[a, b, c, d]) (a' b' c' : Value) :
    w.cell? ⟨g, 0, none⟩ = some a ∧ w.frozen? ⟨g, 0, none⟩ = false ∧ (w.setCell ⟨g, 0, none⟩ a').cell? ⟨g, 1, none⟩ = some b ∧ (w.setCell ⟨g, 0, none⟩ a').frozen? ⟨g, 1, none⟩ = false ∧
    ((w.setCell ⟨g, 0, none⟩ a').setCell ⟨g, 1, none⟩ b').cell? ⟨g, 2, none⟩ = some c ∧ ((w.setCell ⟨g, 0, none⟩ a').setCell ⟨g, 1, none⟩ b').frozen? ⟨g, 2, none⟩ = false ∧
    (((w.setCell ⟨g, 0, none⟩ a').setCell ⟨g, 1, none⟩ b').setCell ⟨g, 2, none⟩ c').cell? ⟨g, 3, none⟩ = some d ∧ (((w.setCell ⟨g, 0, none⟩ a').setCell ⟨g, 1, none⟩ b').setCell ⟨g, 2, none⟩ c').frozen? ⟨g, 3, none⟩ = false :=
  ⟨h.cell 0, h.frozen 0, (h.set_ 0 a').cell 1, (h.set_ 0 a').frozen 1, ((h.set_ 0 a').set_ 1 b').cell 2, ((h.set_ 0 a').set_ 1 b').frozen 2, (((h.set_ 0 a').set_ 1 b').set_ 2 c').cell 3, (((h.set_ 0 a').set_ 1 b').set_ 2 c').frozen 3⟩
theorem far4 {w : World} {g b : Nat} (hb : b ≠ g) (a' b' c' d' : Value) : ((((w.setCell ⟨g, 0, none⟩ a').setCell ⟨g, 1, none⟩ b').setCell ⟨g, 2, none⟩ c').setCell ⟨g, 3, none⟩ d').heap[b]? = w.heap[b]? := by
  rw [Below.heap_setCell _ _ _ _ hb, Below.heap_setCell _ _ _ _ hb, Below.heap_setCell _ _ _ _ hb, Below.heap_setCell _ _ _ _ hb]
theorem DE.zero (w : World) (num : Bool) {op nm : Int} {tx : ByteArray} {g : Nat} (h : dE num 0 = .mk op nm tx []) (ht : tx.size ≤ maxLen) (hb : Blk w g 24 #[.int .i64 op, .int .i64 nm, .string tx, .slice none 0 0]) : DE g num 0 w :=
  ⟨op, nm, tx, [], none, 0, 0, 0, h, hb, rfl, Nat.le_refl _, by decide, ht, rfl⟩
/-- One more around it, a not. -/
theorem DE.nots {g q i : Nat} {w w' : World} {op nm : Int} {tx : ByteArray} {us : List Ex} {A : Option Addr} {m c d : Nat} (hgq : g < q) (hq : q = w.heap.size) (hs : w.heap.size < w'.heap.size) (hk : ∀ b, b ≠ g → b < w.heap.size → w'.heap[b]? = w.heap[b]?)
    (h1 : dE false i = .mk op nm tx us) (h3 : us.length = m) (h4 : m ≤ c) (h5 : c ≤ maxLen) (h6 : tx.size ≤ maxLen) (h7 : XG g w d A us)
    (hg : Blk w' g 24 #[.int .i64 4, .int .i64 0, .string ⟨#[]⟩, .slice (some ⟨q, 0, none⟩) 1 1]) (hb : Blk w' q 24 #[.int .i64 op, .int .i64 nm, .string tx, .slice A m c]) : DE g false (i + 1) w' := by
  have h8 : XG g w' d A us := h7.keep (by omega) (fun b h1 h2 => hk b (by omega) h2)
  refine ⟨4, 0, ⟨#[]⟩, [dE false i], _, 1, 1, d + 1, rfl, hg, rfl, Nat.le_refl _, by decide, by decide, fun k hk => ?_⟩
  match k, hk with
  | 0, _ =>
    obtain ⟨e0, e1, e2, e3⟩ := four hb
    subst h3
    exact ⟨q, 0, op, nm, tx, us, A, c, rfl, hgq, by omega, by rw [h1]; rfl, e0, e1, e2, e3, h4, h5, h6, h8⟩
/-- One more around it, a sum. -/
theorem DE.sums {g z i : Nat} {w w' : World} {op nm : Int} {tx : ByteArray} {us : List Ex} {A : Option Addr} {m c cz d : Nat} (hgz : g < z) (hz : z < w'.heap.size) (hs : w.heap.size ≤ w'.heap.size) (hk : ∀ b, b ≠ g → b < w.heap.size → w'.heap[b]? = w.heap[b]?)
    (h1 : dE true i = .mk op nm tx us) (h3 : us.length = m) (h4 : m ≤ c) (h5 : c ≤ maxLen) (h6 : tx.size ≤ maxLen) (h7 : XG g w d A us) (hcz : 2 ≤ cz) (hczm : cz ≤ maxLen)
    (hg : Blk w' g 24 #[.int .i64 11, .int .i64 0, .string ⟨#[]⟩, .slice (some ⟨z, 0, none⟩) 2 cz]) (hc : ∀ j, j < 8 → w'.cell? ⟨z, j, none⟩ = [Value.int .i64 op, .int .i64 nm, .string tx, .slice A m c, .int .i64 1, .int .i64 (i : Nat), .string ⟨#[]⟩, .slice none 0 0][j]?) : DE g true (i + 1) w' := by
  have h8 : XG g w' d A us := h7.keep hs (fun b h1 h2 => hk b (by omega) h2)
  refine ⟨11, 0, ⟨#[]⟩, [dE true i, .mk 1 (i : Nat) ⟨#[]⟩ []], _, 2, cz, d + 1, rfl, hg, rfl, hcz, hczm, by decide, fun k hk => ?_⟩
  match k, hk with
  | 0, _ =>
    subst h3
    exact ⟨z, 0, op, nm, tx, us, A, c, rfl, hgz, hz, by rw [h1]; rfl, hc 0 (by decide), hc 1 (by decide), hc 2 (by decide), hc 3 (by decide), h4, h5, h6, h8⟩
  | 1, _ => exact ⟨z, 0, 1, (i : Nat), ⟨#[]⟩, [], none, 0, rfl, hgz, hz, rfl, hc 4 (by decide), hc 5 (by decide), hc 6 (by decide), hc 7 (by decide), Nat.le_refl _, by decide, by decide, XG.nil _ _ _ _⟩
theorem exInfo : (Try.prog.info? 24).map (fun i => (i.zero, i.size, i.bytes)) = some (some (.agg #[.int .i64 0, .int .i64 0, .string ⟨#[]⟩, .slice none 0 0]), 4, 56) := by kernel_rfl
theorem own_formP {w : World} {base e size n : Nat} {v : Value} {xs : List Value} (h : w.ownsRow base e size v n xs) (hn : 0 < n) : ∃ g c, v = .slice (some ⟨g, 0, none⟩) n c ∧ n ≤ c ∧ c ≤ maxLen ∧ base ≤ g ∧ g < w.heap.size := by
  rcases h.2 with ⟨rfl, h0⟩ | ⟨g, cap, cur, rfl, h1, h2, h3, h4, h5, h6⟩
  · omega
  · exact ⟨g, cap, rfl, h3, h4, h1, (Array.getElem?_eq_some_iff.1 h2).1⟩
theorem src4 {w : World} {t : TypeId} {a b c d : Value} : ∀ j u, [a, b, c, d][j]? = some u → (w.alloc (.cells #[a, b, c, d] t)).cell? ((⟨w.heap.size, 0, none⟩ : Addr).add j) = some u := by
  intro j u h
  rw [add_none, Nat.zero_add]
  rw [← h, ← List.getElem?_toArray]
  exact (Blk.new w t #[a, b, c, d]).cell j
end Go.Proofs.Ytolgfkkjbefecaa.Ck
