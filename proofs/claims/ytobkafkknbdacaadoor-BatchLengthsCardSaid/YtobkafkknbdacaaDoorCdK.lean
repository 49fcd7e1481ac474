/- Appending to a slice that is the call's own, or full and somebody else's. -/
import Derived.Test.YtobkafkknbdacaaDoorLawKit
import Derived.ArgAppend
import Derived.Below
namespace Go.Proofs.YtobkafkknbdacaaDoor
open Go.RowKit

/-- A slice that an append takes without writing what others hold: the call's own, or full. -/
def Apt (w : World) (base : Nat) (e : TypeId) (v : Value) (n : Nat) (xs : List Value) : Prop :=
  w.ownsRow base e 1 v n xs ∨ ∃ ao, v = .slice ao n n ∧ Has w ao n n xs
theorem apt_own {w : World} {base : Nat} {e : TypeId} {v : Value} {n : Nat} {xs : List Value} (h : w.ownsRow base e 1 v n xs) : Apt w base e v n xs := .inl h
theorem apt_has {w : World} {base : Nat} {e : TypeId} {ao : Option Addr} {n : Nat} {xs : List Value} (h : Has w ao n n xs) : Apt w base e (.slice ao n n) n xs := .inr ⟨ao, rfl, h⟩
theorem Apt.alloc {w : World} {base : Nat} {e : TypeId} {v : Value} {n : Nat} {xs : List Value} (h : Apt w base e v n xs) (o : Obj) : Apt (w.alloc o) base e v n xs := by
  rcases h with h | ⟨ao, h1, h2⟩
  · exact .inl (h.alloc o)
  · exact .inr ⟨ao, h1, h2.below ((Below.refl _ _).alloc (Nat.le_refl _) o)⟩
theorem Apt.len {w : World} {base : Nat} {e : TypeId} {v : Value} {n : Nat} {xs : List Value} (h : Apt w base e v n xs) : xs.length = n := by
  rcases h with h | ⟨ao, h1, h2⟩
  · have := h.1; omega
  · exact h2.1
theorem Has.nil {w : World} {A : Option Addr} {n c : Nat} {xs : List Value} (h : Has w A n c xs) (hA : A = none) : n = 0 ∧ c = 0 ∧ xs = [] := by
  obtain ⟨h1, _, h3⟩ := h
  rcases h3 with ⟨_, h4, h5⟩ | ⟨x, e, _⟩
  · exact ⟨h4, h5, List.length_eq_zero_iff.1 (by omega)⟩
  · rw [hA] at e; cases e
theorem Has.at' {w : World} {A : Option Addr} {n c : Nat} {xs : List Value} (h : Has w A n c xs) : ∀ b, A = some b → ∀ j u, xs[j]? = some u → w.cell? (b.add j) = some u := by
  obtain ⟨_, _, h3⟩ := h
  rintro b rfl j u hu
  rcases h3 with ⟨h4, _, _⟩ | ⟨x, e, h5⟩
  · cases h4
  · obtain rfl := Option.some.inj e
    exact (h5 j u hu).2

theorem own_mono {w : World} {b b' : Nat} {e : TypeId} {size : Nat} {v : Value} {n : Nat} {xs : List Value} (h : w.ownsRow b e size v n xs) (hb : b' ≤ b) : w.ownsRow b' e size v n xs := by
  obtain ⟨h0, h⟩ := h
  rcases h with h | ⟨g, cap, cur, hv, hbg, r⟩
  · exact ⟨h0, .inl h⟩
  · exact ⟨h0, .inr ⟨g, cap, cur, hv, by omega, r⟩⟩

theorem wpList_append_apt {P : Program} (w : World) {ops : Array Oper} {rest : List Oper} {o : Oper} {a : Act} {Q : Exit → Act → World → Prop} (hgd : o.guard = none) (s x : Operand) (t : TypeId)
    (ho : o.op = .call { callee := .builtin .append, args := #[s, x], argTypes := #[t, t] })
    (base : Nat) (e : TypeId) (i : TypeInfo) (z : Value) (bytes : Nat) (ht : P.underlying t = some (.slice e)) (hi : P.info? e = some i) (hz : i.zero = some z)
    (hsize : i.size = 1) (hby : i.bytes = bytes) (hzs : z.cells.size = 1)
    (v : Value) (n : Nat) (xs : List Value) (hs : a.eval s = v) (hv : Apt w base e v n xs)
    (ad : Addr) (m c : Nat) (news : List Value) (hx : a.eval x = .slice (some ad) m c) (hl : news.length = m) (hnews : ∀ j u, news[j]? = some u → w.cell? (ad.add j) = some u) (h1 : ∀ u ∈ news, u.oneCell' = true)
    (hm : 0 < m) (h63 : n + m ≤ maxLen) (hbytes : (n + m) * bytes ≤ 140737488355328) (hbase : base ≤ w.heap.size)
    (h : ∀ v' w', w'.ownsRow base e 1 v' (n + m) (xs ++ news) → Below base w w' → wpList P ops Q rest (a.put o.dst v') w') : wpList P ops Q (o :: rest) a w := by
  rcases hv with hv | ⟨ao, rfl, hh⟩
  · exact wpList_append_own w hgd s x t ho base e i z 1 bytes ht hi hz hsize hby hzs (by decide) v n xs hs hv ad m c news hx (by omega) hnews h1 h63 hbytes hbase
      fun v' w' g1 g2 _ => h v' w' g1 ((Below.refl base w).grown g2 hbase (fun k hk => (hv.lt k hk).1))
  · exact wpList_append_grows w hgd s x t ho e i z 1 bytes ht hi hz hsize hby hzs (by decide) ao n n xs hs (fun h0 => ⟨(hh.nil h0).1, (hh.nil h0).2.1⟩) (by have := hh.1; omega) hh.at' ad m c news hx (by omega) hnews h1 (by omega) h63 hbytes
      fun v' w' g1 g2 => h v' w' (own_mono g1 hbase) ((Below.refl base w).grown g2 hbase (fun k hk => by cases hk))

/-- What is owned reads as a row. -/
theorem has_own {w : World} {base : Nat} {e : TypeId} {A : Option Addr} {m n c : Nat} {xs : List Value} (h : w.ownsRow base e 1 (.slice A m c) n xs) (h1 : ∀ u ∈ xs, u.oneCell' = true) : m = n ∧ Has w A n c xs := by
  have h' := h
  obtain ⟨h0, h⟩ := h
  rcases h with ⟨hv, rfl⟩ | ⟨g, cap, cur, hv, hb, hg, hnc, hcm, hcs, htake⟩
  · simp only [Value.slice.injEq] at hv
    obtain ⟨rfl, rfl, rfl⟩ := hv
    exact ⟨rfl, by omega, h1, .inl ⟨rfl, rfl, rfl⟩⟩
  · simp only [Value.slice.injEq] at hv
    obtain ⟨rfl, rfl, rfl⟩ := hv
    refine ⟨rfl, by omega, h1, .inr ⟨_, rfl, fun j u hu => ?_⟩⟩
    have hlt : g < w.heap.size := (Array.getElem?_eq_some_iff.1 hg).1
    exact ⟨hlt, World.ownsRow.cells h' (g := g) rfl j u hu⟩
theorem own_cap {w : World} {base : Nat} {e : TypeId} {A : Option Addr} {m n c : Nat} {xs : List Value} (h : w.ownsRow base e 1 (.slice A m c) n xs) : n ≤ c ∧ c ≤ maxLen := by
  rcases h.2 with ⟨hv, rfl⟩ | ⟨g, cap, cur, hv, hb, hg, hnc, hcm, hcs, htake⟩
  · simp only [Value.slice.injEq] at hv
    obtain ⟨rfl, rfl, rfl⟩ := hv
    exact ⟨Nat.le_refl _, by unfold maxLen; omega⟩
  · simp only [Value.slice.injEq] at hv
    obtain ⟨rfl, rfl, rfl⟩ := hv
    exact ⟨hnc, hcm⟩
/-- The front and the back of a row. -/
theorem Has.take {w : World} {A : Option Addr} {n c : Nat} {xs : List Value} (h : Has w A n c xs) (k : Nat) (hk : k ≤ n) : ∀ c', (A = none → c' = 0) → Has w A k c' (xs.take k) := by
  intro c' hc'
  obtain ⟨h1, h2, h3⟩ := h
  refine ⟨by rw [List.length_take]; omega, fun u hu => h2 u (List.mem_of_mem_take hu), ?_⟩
  rcases h3 with ⟨rfl, h4, h5⟩ | ⟨x, rfl, h3⟩
  · exact .inl ⟨rfl, by omega, hc' rfl⟩
  · refine .inr ⟨x, rfl, fun j u hu => h3 j u ?_⟩
    have hj : j < k := by
      have := (List.getElem?_eq_some_iff.1 hu).1
      rw [List.length_take] at this; omega
    rwa [List.getElem?_take_of_lt hj] at hu
theorem add_add (x : Addr) (k j : Nat) (hs : x.spot = none) : (x.add k).add j = x.add (k + j) := by
  obtain ⟨b, off, spot⟩ := x
  subst hs
  rw [add_none, add_none, add_none, Nat.add_assoc]
end Go.Proofs.YtobkafkknbdacaaDoor
