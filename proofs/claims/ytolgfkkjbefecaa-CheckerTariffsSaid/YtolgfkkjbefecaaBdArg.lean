/- How lists of bands that come in read. -/
import Derived.Test.YtolgfkkjbefecaaLawKit
import Derived.Test.YtolgfkkjbefecaaBdV
import Derived.Test.YtolgfkkjbefecaaIvArg
import Derived.SizedLaws
namespace Go.Proofs.Ytolgfkkjbefecaa
open Go.ChangeShapes Go.WideShapes Go.ChangeAt Go.RowKit Go.Deep

/-- Every weight of a datum is within reach. -/
def WL {H : Type} (t : TypeId) (d : DataW H) : Prop := ∀ x ∈ d.weights Try.prog t, x ≤ reachBytes
theorem WL.top {H : Type} {ts : List TypeId} {ds : List (DataW H)} (h : (DataW.weightsEach Try.prog ts ds).all (· ≤ reachBytes) = true) {j : Nat} {t : TypeId} {d : DataW H} (ht : ts[j]? = some t) (hd : ds[j]? = some d) : WL t d := fun x hx => by
  have := List.all_eq_true.1 h x (DataW.weights_mem_each ht hd x hx)
  simpa using this
theorem weights_all {H : Type} {e : TypeId} {x : Nat} : ∀ {l : List (DataW H)} {d : DataW H}, d ∈ l → x ∈ d.weights Try.prog e → x ∈ DataW.weightsAll Try.prog e l := by
  intro l
  induction l with
  | nil => intro d h; cases h
  | cons y l ih =>
    intro d h hx
    rw [DataW.weightsAll, List.mem_append]
    rcases List.mem_cons.1 h with rfl | h
    · exact .inl hx
    · exact .inr (ih h hx)
theorem WL.elem {H : Type} {t e : TypeId} {elems spare : List (DataW H)} (ht : Try.prog.underlying t = some (.slice e)) (h : WL t (.slice elems spare)) {d : DataW H} (hd : d ∈ elems) : WL e d := fun x hx => by
  refine h x ?_
  rw [DataW.weights, ht]
  exact List.mem_cons_of_mem _ (List.mem_append.2 (.inl (weights_all hd hx)))
theorem WL.size {H : Type} {t e : TypeId} {elems spare : List (DataW H)} (ht : Try.prog.underlying t = some (.slice e)) (h : WL t (.slice elems spare)) : (elems.length + spare.length) * Try.prog.bytesOf e ≤ reachBytes := by
  refine h _ ?_
  rw [DataW.weights, ht]
  exact List.mem_cons_self ..
theorem WL.part {H : Type} {t : TypeId} {fs : Array Field} {parts : List (DataW H)} (ht : Try.prog.underlying t = some (.struct fs)) (h : WL t (.agg parts)) {j : Nat} {u : TypeId} {d : DataW H} (hu : (fs.toList.map (·.type))[j]? = some u) (hd : parts[j]? = some d) : WL u d := fun x hx => by
  refine h x ?_
  rw [DataW.weights, ht]
  exact DataW.weights_mem_each hu hd x hx
theorem spot_none {w : World} {a : Addr} {k : Nat} {v : Value} (h : w.cell? (a.add (0 * k)) = some v) : ∃ b off, a = ⟨b, off, none⟩ := by
  obtain ⟨b, off, spot⟩ := a
  have hs : spot = none := by
    have h2 := World.cell?_spot h
    simpa [Addr.add] using h2
  subst hs
  exact ⟨b, off, rfl⟩
set_option maxRecDepth 100000 in
theorem sls_in {H : Type} {enc : TypeId × Value → H} {w : World} {base : Nat} {held : Bool} {fuel : Nat} {v : Value} {x : DataW H × List MemPlace}
    (h : DataW.trod enc Try.prog w base (fun _ => true) held fuel 56 [v] = some x) (hw : WL 56 x.1) : ∃ A n c ss, v = .slice A n c ∧ n ≤ c ∧ c ≤ maxLen ∧ ss.length = n ∧ SlR w A ss ∧ n ≤ 6000000000000 := by
  have he : Try.prog.underlying 101 = some (.struct (Try.prog.fieldsOf 101)) := by kernel_rfl
  rcases open_slice Try.underlying56 h with ⟨hcs, _⟩ | ⟨a, l, c, m, n, D, Pl, hcs, _, hl, hm, hmm, hx, hi⟩
  · obtain rfl : v = .slice none 0 0 := by simpa using hcs
    exact ⟨none, 0, 0, [], rfl, Nat.le_refl _, by decide, rfl, SlR.nil, by omega⟩
  · obtain rfl : v = .slice (some a) l c := by simpa using hcs
    simp at hmm
    subst hmm
    have hbytes : l ≤ 6000000000000 := by
      rw [hx] at hw
      have h1 := WL.size Try.underlying56 hw
      rw [show Try.prog.bytesOf 101 = 24 from by kernel_rfl] at h1
      simp only [List.length_map, List.length_range, reachBytes] at h1
      omega
    have hC : Try.prog.cellsOf 101 = 3 := by kernel_rfl
    have hat : ∀ i, i < m → ∃ s : Sl, w.cell? (a.add (i * 3)) = some (.int .i64 s.1) ∧ w.cell? (a.add (i * 3 + 1)) = some (.int .i64 s.2.1) ∧ w.cell? (a.add (i * 3 + 2)) = some (.int .i64 s.2.2) := by
      intro i him
      obtain ⟨cs', hc, ht'⟩ := hi i him
      rw [hC] at hc
      obtain ⟨ys, n', hn', hy, hlen, hyl, hfl⟩ := DataW.trod_struct he ht'
      obtain ⟨_, hcl, hcat⟩ := World.cells?_some hc
      obtain ⟨c0, c1, c2, rfl⟩ : ∃ c0 c1 c2, cs' = [c0, c1, c2] := by
        match cs', hcl with
        | [c0, c1, c2], _ => exact ⟨c0, c1, c2, rfl⟩
      have h0 := hfl 0 _ rfl
      have h1 := hfl 1 _ rfl
      have h2 := hfl 2 _ rfl
      have e0 : ys[0]? = some (ys[0]'(by rw [hyl]; decide)) := List.getElem?_eq_getElem _
      have e1 : ys[1]? = some (ys[1]'(by rw [hyl]; decide)) := List.getElem?_eq_getElem _
      have e2 : ys[2]? = some (ys[2]'(by rw [hyl]; decide)) := List.getElem?_eq_getElem _
      rw [e0] at h0
      rw [e1] at h1
      rw [e2] at h2
      obtain ⟨u0, hu0, _⟩ := int_in (v := c0) h0
      obtain ⟨u1, hu1, _⟩ := int_in (v := c1) h1
      obtain ⟨u2, hu2, _⟩ := int_in (v := c2) h2
      subst hu0 hu1 hu2
      have g0 := hcat 0 (by decide)
      have g1 := hcat 1 (by decide)
      have g2 := hcat 2 (by decide)
      rw [Go.Deep.add_add] at g0 g1 g2
      exact ⟨(u0, u1, u2), by simpa using g0, by simpa using g1, by simpa using g2⟩
    obtain ⟨f, hf'⟩ : ∃ f : Nat → Sl, ∀ i, i < m → w.cell? (a.add (i * 3)) = some (.int .i64 (f i).1) ∧ w.cell? (a.add (i * 3 + 1)) = some (.int .i64 (f i).2.1) ∧ w.cell? (a.add (i * 3 + 2)) = some (.int .i64 (f i).2.2) := by
      refine ⟨fun i => if h : i < m then Classical.choose (hat i h) else sl0, fun i hi' => ?_⟩
      simp only [dif_pos hi']
      exact Classical.choose_spec (hat i hi')
    refine ⟨_, l, m, (List.range l).map f, rfl, hl, hm, by simp, fun k hk => ?_, hbytes⟩
    simp at hk
    obtain ⟨g0, g1, g2⟩ := hf' k (by omega)
    obtain ⟨b, off, rfl⟩ := spot_none (hf' 0 (by omega)).1
    rw [add_none] at g0 g1 g2
    have hb := cell_block_lt g0
    refine ⟨b, off, rfl, hb, ?_, ?_, ?_⟩
    · rw [g0]; simp [List.getD, List.getElem?_map, List.getElem?_range hk]
    · rw [show off + k * 3 + 1 = off + (k * 3 + 1) by omega, g1]; simp [List.getD, List.getElem?_map, List.getElem?_range hk]
    · rw [show off + k * 3 + 2 = off + (k * 3 + 2) by omega, g2]; simp [List.getD, List.getElem?_map, List.getElem?_range hk]

set_option maxRecDepth 100000 in
theorem bds_in {H : Type} {enc : TypeId × Value → H} {w : World} {base : Nat} {held : Bool} {fuel : Nat} {v : Value} {x : DataW H × List MemPlace}
    (h : DataW.trod enc Try.prog w base (fun _ => true) held fuel 35 [v] = some x) (hw : WL 35 x.1) : ∃ A len cap l, v = .slice A len cap ∧ len ≤ cap ∧ cap ≤ maxLen ∧ l.length = len ∧ BdR w A l ∧ ∀ b ∈ l, b.2.length ≤ 6000000000000 := by
  have he : Try.prog.underlying 58 = some (.struct (Try.prog.fieldsOf 58)) := by kernel_rfl
  rcases open_slice Try.underlying35 h with ⟨hcs, _⟩ | ⟨a, l, c, m, n, D, Pl, hcs, _, hl, hm, hmm, hx, hi⟩
  · obtain rfl : v = .slice none 0 0 := by simpa using hcs
    exact ⟨none, 0, 0, [], rfl, Nat.le_refl _, by decide, rfl, BdR.nil, fun b hb => by cases hb⟩
  · obtain rfl : v = .slice (some a) l c := by simpa using hcs
    simp at hmm
    subst hmm
    rw [hx] at hw
    have hC : Try.prog.cellsOf 58 = 2 := by kernel_rfl
    have hat : ∀ i, i < l → ∃ (d : Bd) (S : Option Addr) (cc : Nat), w.cell? (a.add (i * 2)) = some (.string d.1) ∧ w.cell? (a.add (i * 2 + 1)) = some (.slice S d.2.length cc) ∧ d.2.length ≤ cc ∧ cc ≤ maxLen ∧ SlR w S d.2 ∧ d.1.size ≤ maxLen ∧ d.2.length ≤ 6000000000000 := by
      intro i hil
      have him : i < m := by omega
      obtain ⟨cs', hc, ht'⟩ := hi i him
      rw [hC] at hc
      have hwi : WL 58 (D i) := WL.elem Try.underlying35 hw (List.mem_map.2 ⟨i, List.mem_range.2 hil, rfl⟩)
      obtain ⟨ys, n', hn', hy, hlen, hyl, hfl⟩ := DataW.trod_struct he ht'
      obtain ⟨_, hcl, hcat⟩ := World.cells?_some hc
      obtain ⟨c0, c1, rfl⟩ : ∃ c0 c1, cs' = [c0, c1] := by
        match cs', hcl with
        | [c0, c1], _ => exact ⟨c0, c1, rfl⟩
      have h0 := hfl 0 _ rfl
      have h1 := hfl 1 _ rfl
      have e0 : ys[0]? = some (ys[0]'(by rw [hyl]; decide)) := List.getElem?_eq_getElem _
      have e1 : ys[1]? = some (ys[1]'(by rw [hyl]; decide)) := List.getElem?_eq_getElem _
      rw [e0] at h0
      rw [e1] at h1
      obtain ⟨s, hs, _, hsz⟩ := DataW.trod_string (cs := [c0]) Try.underlying9 h0
      have hD : D i = .agg (ys.map (·.1)) := congrArg Prod.fst hy
      rw [hD] at hwi
      have hw1 : WL 56 (ys[1]'(by rw [hyl]; decide)).1 := WL.part he hwi (j := 1) rfl (by rw [List.getElem?_map, e1]; rfl)
      obtain ⟨S, nn, cc, ss, hv, k1, k2, k3, k4, k5⟩ := sls_in h1 hw1
      obtain rfl : c0 = .string s := by simpa using hs
      subst hv
      have g0 := hcat 0 (by decide)
      have g1 := hcat 1 (by decide)
      rw [Go.Deep.add_add] at g0 g1
      subst k3
      exact ⟨(s, ss), S, cc, by simpa using g0, by simpa using g1, k1, k2, k4, hsz, k5⟩
    obtain ⟨f, hf'⟩ : ∃ f : Nat → Bd, ∀ i, i < l → ∃ (S : Option Addr) (cc : Nat), w.cell? (a.add (i * 2)) = some (.string (f i).1) ∧ w.cell? (a.add (i * 2 + 1)) = some (.slice S (f i).2.length cc) ∧ (f i).2.length ≤ cc ∧ cc ≤ maxLen ∧ SlR w S (f i).2 ∧ (f i).1.size ≤ maxLen ∧ (f i).2.length ≤ 6000000000000 := by
      refine ⟨fun i => if h : i < l then Classical.choose (hat i h) else bd0, fun i hi' => ?_⟩
      simp only [dif_pos hi']
      exact Classical.choose_spec (hat i hi')
    refine ⟨_, l, m, (List.range l).map f, rfl, hl, hm, by simp, fun k hk => ?_, fun b hb => ?_⟩
    · simp at hk
      obtain ⟨S, cc, g0, g1, k1, k2, k4, k5, k6⟩ := hf' k hk
      obtain ⟨_, _, g9, _⟩ := hf' 0 (by omega)
      obtain ⟨b, off, rfl⟩ := spot_none g9
      rw [add_none] at g0 g1
      have hb := cell_block_lt g0
      have e : ((List.range l).map f).getD k bd0 = f k := by simp [List.getD, List.getElem?_map, List.getElem?_range hk]
      rw [e]
      exact ⟨b, off, S, cc, rfl, hb, g0, by rw [show off + k * 2 + 1 = off + (k * 2 + 1) by omega, g1], k1, k2, k4, k5⟩
    · obtain ⟨i, hi2, rfl⟩ := List.mem_map.1 hb
      obtain ⟨_, _, _, _, _, _, _, _, k6⟩ := hf' i (List.mem_range.1 hi2)
      exact k6
end Go.Proofs.Ytolgfkkjbefecaa
