/- How lists of zones that come in read. -/
import Derived.Test.YtolgfkkjbefecaaZnV
import Derived.Test.YtolgfkkjbefecaaLawKit
import Derived.Deep.Slices
import Derived.Deep.Fields
import Derived.ChangeSame
import Derived.Lib.SmallJoins
import Derived.SizedLaws
namespace Go.Proofs.Ytolgfkkjbefecaa.Zn
open Go.ChangeShapes Go.WideShapes Go.ChangeAt Go.RowKit Go.Deep Go.Lib

/-- Every weight of a datum is within reach. -/
def WL {H : Type} (t : TypeId) (d : DataW H) : Prop := ∀ x ∈ d.weights Try.prog t, x ≤ reachBytes
theorem WL.top {H : Type} {ts : List TypeId} {ds : List (DataW H)} (h : (DataW.weightsEach Try.prog ts ds).all (· ≤ reachBytes) = true) {j : Nat} {t : TypeId} {d : DataW H} (ht : ts[j]? = some t) (hd : ds[j]? = some d) : WL t d := fun x hx => by
  have := List.all_eq_true.1 h x (DataW.weights_mem_each ht hd x hx)
  simpa using this
theorem weights_all {H : Type} {e : TypeId} {x : Nat} : ∀ {l : List (DataW H)} {d : DataW H}, d ∈ l → x ∈ d.weights Try.prog e → x ∈ DataW.weightsAll Try.prog e l := by
  intro l
  induction l with
  | nil => intro d h; cases h
  | cons y l ih =>
    intro d h hx
    rw [DataW.weightsAll, List.mem_append]
    rcases List.mem_cons.1 h with rfl | h
    · exact .inl hx
    · exact .inr (ih h hx)
theorem WL.elem {H : Type} {t e : TypeId} {elems spare : List (DataW H)} (ht : Try.prog.underlying t = some (.slice e)) (h : WL t (.slice elems spare)) {d : DataW H} (hd : d ∈ elems) : WL e d := fun x hx => by
  refine h x ?_
  rw [DataW.weights, ht]
  exact List.mem_cons_of_mem _ (List.mem_append.2 (.inl (weights_all hd hx)))
theorem WL.size {H : Type} {t e : TypeId} {elems spare : List (DataW H)} (ht : Try.prog.underlying t = some (.slice e)) (h : WL t (.slice elems spare)) : (elems.length + spare.length) * Try.prog.bytesOf e ≤ reachBytes := by
  refine h _ ?_
  rw [DataW.weights, ht]
  exact List.mem_cons_self ..
theorem WL.part {H : Type} {t : TypeId} {fs : Array Field} {parts : List (DataW H)} (ht : Try.prog.underlying t = some (.struct fs)) (h : WL t (.agg parts)) {j : Nat} {u : TypeId} {d : DataW H} (hu : (fs.toList.map (·.type))[j]? = some u) (hd : parts[j]? = some d) : WL u d := fun x hx => by
  refine h x ?_
  rw [DataW.weights, ht]
  exact DataW.weights_mem_each hu hd x hx
theorem spot_none {w : World} {a : Addr} {k : Nat} {v : Value} (h : w.cell? (a.add (0 * k)) = some v) : ∃ b off, a = ⟨b, off, none⟩ := by
  obtain ⟨b, off, spot⟩ := a
  have hs : spot = none := by
    have h2 := World.cell?_spot h
    simpa [Addr.add] using h2
  subst hs
  exact ⟨b, off, rfl⟩
theorem str_inV {H : Type} {enc : TypeId × Value → H} {w : World} {base : Nat} {spare : Nat → Bool} {held : Bool} {n : Nat} {v : Value} {x : DataW H × List MemPlace} (h : DataW.trod enc Try.prog w base spare held n 9 [v] = some x) :
    ∃ z : ByteArray, v = .string z ∧ z.size ≤ maxLen := by
  obtain ⟨z, hc, _, hw⟩ := DataW.trod_string (cs := [v]) Try.underlying9 h
  exact ⟨z, by simpa using hc, hw⟩
theorem list2 {α : Type} {cs : List α} (h : cs.length = 2) : ∃ c0 c1, cs = [c0, c1] := by
  match cs, h with
  | [c0, c1], _ => exact ⟨c0, c1, rfl⟩
set_option maxRecDepth 100000 in
theorem ts_in {H : Type} {enc : TypeId × Value → H} {w : World} {base : Nat} {held : Bool} {fuel : Nat} {v : Value} {x : DataW H × List MemPlace}
    (h : DataW.trod enc Try.prog w base (fun _ => true) held fuel 53 [v] = some x) (hw : WL 53 x.1) : ∃ A n c zs, v = .slice A n c ∧ zs.length = n ∧ n ≤ c ∧ c ≤ maxLen ∧ TsR w A zs ∧ n ≤ 8796093021952 ∧ ∀ p ∈ zs, p.size ≤ maxLen := by
  rcases open_slice Try.underlying53 h with ⟨hcs, _⟩ | ⟨a, l, c, m, n, D, Pl, hcs, _, hl, hm, hmm, hx, hi⟩
  · obtain rfl : v = .slice none 0 0 := by simpa using hcs
    exact ⟨none, 0, 0, [], rfl, rfl, Nat.le_refl _, by decide, fun k hk => absurd hk (Nat.not_lt_zero k), by omega, fun p hp => by cases hp⟩
  · obtain rfl : v = .slice (some a) l c := by simpa using hcs
    simp at hmm
    subst hmm
    have hbytes : l ≤ 8796093021952 := by
      rw [hx] at hw
      have h1 := WL.size Try.underlying53 hw
      rw [show Try.prog.bytesOf 9 = 16 from by kernel_rfl] at h1
      simp only [List.length_map, List.length_range, reachBytes] at h1
      omega
    have hC : Try.prog.cellsOf 9 = 1 := by kernel_rfl
    have hat : ∀ i, i < m → ∃ s : ByteArray, w.cell? (a.add (i * 1)) = some (.string s) ∧ s.size ≤ maxLen := by
      intro i him
      obtain ⟨cs', hc, ht'⟩ := hi i him
      rw [hC] at hc
      obtain ⟨_, hcl, hcat⟩ := World.cells?_some hc
      obtain ⟨c0, rfl⟩ : ∃ c0, cs' = [c0] := by
        match cs', hcl with
        | [c0], _ => exact ⟨c0, rfl⟩
      obtain ⟨s, rfl, hs⟩ := str_inV (v := c0) ht'
      have g0 := hcat 0 (by decide)
      rw [Go.Deep.add_add] at g0
      exact ⟨s, by simpa using g0, hs⟩
    obtain ⟨f, hf'⟩ : ∃ f : Nat → ByteArray, ∀ i, i < m → w.cell? (a.add (i * 1)) = some (.string (f i)) ∧ (f i).size ≤ maxLen := by
      refine ⟨fun i => if h : i < m then Classical.choose (hat i h) else ⟨#[]⟩, fun i hi' => ?_⟩
      simp only [dif_pos hi']
      exact Classical.choose_spec (hat i hi')
    refine ⟨_, l, m, (List.range l).map f, rfl, by simp, hl, hm, fun k hk => ?_, hbytes, fun p hp => ?_⟩
    · simp at hk
      obtain ⟨g0, gs⟩ := hf' k (by omega)
      obtain ⟨b, off, rfl⟩ := spot_none (hf' 0 (by omega)).1
      rw [add_none, Nat.mul_one] at g0
      have hb := cell_block_lt g0
      have e : ((List.range l).map f).getD k ⟨#[]⟩ = f k := by simp [List.getD, List.getElem?_map, List.getElem?_range hk]
      rw [e]
      exact ⟨b, off, rfl, hb, g0⟩
    · obtain ⟨k, hk, rfl⟩ := List.mem_map.1 hp
      exact (hf' k (by have := List.mem_range.1 hk; omega)).2
/-- A zone that comes in. -/
structure ZIn (w : World) (z : Zm) (P : Option Addr) (c : Nat) : Prop where
  cap : z.ps.length ≤ c
  max : c ≤ maxLen
  ts : TsR w P z.ps
  big : z.ps.length ≤ 8796093021952
  nm : z.nm.size ≤ maxLen
  sz : ∀ p ∈ z.ps, p.size ≤ maxLen
set_option maxRecDepth 100000 in
theorem zn_in {H : Type} {enc : TypeId × Value → H} {w : World} {base : Nat} {held : Bool} {fuel : Nat} {cs : List Value} {x : DataW H × List MemPlace}
    (h : DataW.trod enc Try.prog w base (fun _ => true) held fuel 55 cs = some x) (hl : cs.length = 2) (hw : WL 55 x.1) : ∃ (z : Zm) (P : Option Addr) (c : Nat), cs = [.string z.nm, .slice P z.ps.length c] ∧ ZIn w z P c := by
  have he : Try.prog.underlying 55 = some (.struct (Try.prog.fieldsOf 55)) := by kernel_rfl
  obtain ⟨c0, c1, rfl⟩ := list2 hl
  obtain ⟨ys, n', hn', hy, hlen, hyl, hfl⟩ := DataW.trod_struct he h
  have h0 := hfl 0 _ rfl
  have e0 : ys[0]? = some (ys[0]'(by rw [hyl]; decide)) := List.getElem?_eq_getElem _
  rw [e0] at h0
  have h1 := hfl 1 _ rfl
  have e1 : ys[1]? = some (ys[1]'(by rw [hyl]; decide)) := List.getElem?_eq_getElem _
  rw [e1] at h1
  have hD : x.1 = .agg (ys.map (·.1)) := congrArg Prod.fst hy
  rw [hD] at hw
  have hw1 : WL 53 (ys[1]'(by rw [hyl]; decide)).1 := WL.part he hw (j := 1) rfl (by rw [List.getElem?_map, e1]; rfl)
  obtain ⟨u0, hu0, s0⟩ := str_inV (v := c0) h0
  obtain ⟨A, n, c, zs, hv, k1, k2, k3, k4, k5, k6⟩ := ts_in h1 hw1
  subst hu0 hv k1
  exact ⟨⟨u0, zs⟩, A, c, rfl, ⟨k2, k3, k4, k5, s0, k6⟩⟩
set_option maxRecDepth 100000 in
theorem zns_of {H : Type} {enc : TypeId × Value → H} {w : World} {d : DataW H} {p : List MemPlace} {A : Option Addr} {len cap : Nat}
    (h : DataW.Trod enc Try.prog w 0 (fun _ => true) true 34 (.slice A len cap) d p) (hw : WL 34 d) : ∃ l : List Zm, l.length = len ∧ len ≤ cap ∧ cap ≤ maxLen ∧ ZsR w A l ∧ ∀ z ∈ l, z.ps.length ≤ 8796093021952 ∧ z.nm.size ≤ maxLen ∧ ∀ p ∈ z.ps, p.size ≤ maxLen := by
  obtain ⟨fuel, hf⟩ := h
  rcases open_slice Try.underlying34 hf with ⟨hcs, _⟩ | ⟨a, l, c, m, n, D, Pl, hcs, _, hl, hm, hmm, hx, hi⟩
  · simp [Value.cells] at hcs
    obtain ⟨rfl, rfl, rfl⟩ := hcs
    exact ⟨[], rfl, Nat.le_refl _, Nat.zero_le _, fun k hk => absurd hk (Nat.not_lt_zero k), fun z hz => by cases hz⟩
  · simp [Value.cells] at hcs
    obtain ⟨rfl, rfl, rfl⟩ := hcs
    simp at hmm
    subst hmm
    have hx : d = _ := congrArg Prod.fst hx
    rw [hx] at hw
    have hC : Try.prog.cellsOf 55 = 2 := by kernel_rfl
    have hat : ∀ i, i < len → ∃ y : Zm × Option Addr × Nat, (w.cell? (a.add (i * 2)) = some (.string y.1.nm) ∧ w.cell? (a.add (i * 2 + 1)) = some (.slice y.2.1 y.1.ps.length y.2.2)) ∧ ZIn w y.1 y.2.1 y.2.2 := by
      intro i hil
      obtain ⟨cs', hc, ht'⟩ := hi i (by omega)
      rw [hC] at hc
      obtain ⟨_, hcl, hcat⟩ := World.cells?_some hc
      have hwi : WL 55 (D i) := WL.elem Try.underlying34 hw (List.mem_map.2 ⟨i, List.mem_range.2 hil, rfl⟩)
      obtain ⟨z, P, c, rfl, hz⟩ := zn_in ht' hcl hwi
      have g0 := hcat 0 (by decide)
      have g1 := hcat 1 (by decide)
      rw [Go.Deep.add_add] at g0 g1
      exact ⟨(z, P, c), ⟨by simpa using g0, by simpa using g1⟩, hz⟩
    obtain ⟨f, hf'⟩ : ∃ f : Nat → Zm × Option Addr × Nat, ∀ i, i < len → (w.cell? (a.add (i * 2)) = some (.string (f i).1.nm) ∧ w.cell? (a.add (i * 2 + 1)) = some (.slice (f i).2.1 (f i).1.ps.length (f i).2.2)) ∧ ZIn w (f i).1 (f i).2.1 (f i).2.2 := by
      refine ⟨fun i => if h : i < len then Classical.choose (hat i h) else (zm0, none, 0), fun i hi' => ?_⟩
      simp only [dif_pos hi']
      exact Classical.choose_spec (hat i hi')
    refine ⟨(List.range len).map fun i => (f i).1, by simp, by omega, by omega, fun k hk => ?_, fun z hz => ?_⟩
    · simp at hk
      obtain ⟨⟨g0, g1⟩, gz⟩ := hf' k hk
      obtain ⟨b, off, rfl⟩ := spot_none (k := 2) (hf' 0 (by omega)).1.1
      have e : ((List.range len).map fun i => (f i).1).getD k zm0 = (f k).1 := by simp [List.getD, List.getElem?_map, List.getElem?_range hk]
      rw [add_none] at g0 g1
      have hb := cell_block_lt g0
      rw [e]
      refine ⟨b, off, (f k).2.1, (f k).2.2, rfl, hb, g0, ?_, gz.cap, gz.max, gz.ts, fun a' ha hp => ?_⟩
      · rw [Nat.add_assoc]; exact g1
      · obtain ⟨b', o', he, hlt, -⟩ := gz.ts 0 hp
        rw [ha] at he
        injection he with he
        rw [he]; exact hlt
    · obtain ⟨k, hk, rfl⟩ := List.mem_map.1 hz
      have gz := (hf' k (List.mem_range.1 hk)).2
      exact ⟨gz.big, gz.nm, gz.sz⟩
end Go.Proofs.Ytolgfkkjbefecaa.Zn
