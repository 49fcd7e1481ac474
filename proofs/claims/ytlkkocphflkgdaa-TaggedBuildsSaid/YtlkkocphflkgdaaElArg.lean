/- How lists of elements that come in read. -/
import Derived.Test.YtlkkocphflkgdaaLawKit
import Derived.Test.YtlkkocphflkgdaaTgV
import Derived.Deep.Slices
import Derived.Deep.Fields
import Derived.ChangeSame
import Derived.Lib.SmallJoins
import Derived.SizedLaws
namespace Go.Proofs.Ytlkkocphflkgdaa
open Go.ChangeShapes Go.WideShapes Go.ChangeAt Go.RowKit Go.Deep

/-- Every weight of a datum is within reach. -/
def WL {H : Type} (t : TypeId) (d : DataW H) : Prop := ∀ x ∈ d.weights Try.prog t, x ≤ reachBytes
theorem WL.top {H : Type} {ts : List TypeId} {ds : List (DataW H)} (h : (DataW.weightsEach Try.prog ts ds).all (· ≤ reachBytes) = true) {j : Nat} {t : TypeId} {d : DataW H} (ht : ts[j]? = some t) (hd : ds[j]? = some d) : WL t d := fun x hx => by
  have := List.all_eq_true.1 h x (DataW.weights_mem_each ht hd x hx)
  simpa using this
theorem weights_all {H : Type} {e : TypeId} {x : Nat} : ∀ {l : List (DataW H)} {d : DataW H}, d ∈ l → x ∈ d.weights Try.prog e → x ∈ DataW.weightsAll Try.prog e l := by
  intro l
  induction l with
  | nil => intro d h; cases h
  | cons y l ih =>
    intro d h hx
    rw [DataW.weightsAll, List.mem_append]
    rcases List.mem_cons.1 h with rfl | h
    · exact .inl hx
    · exact .inr (ih h hx)
theorem WL.elem {H : Type} {t e : TypeId} {elems spare : List (DataW H)} (ht : Try.prog.underlying t = some (.slice e)) (h : WL t (.slice elems spare)) {d : DataW H} (hd : d ∈ elems) : WL e d := fun x hx => by
  refine h x ?_
  rw [DataW.weights, ht]
  exact List.mem_cons_of_mem _ (List.mem_append.2 (.inl (weights_all hd hx)))
theorem WL.size {H : Type} {t e : TypeId} {elems spare : List (DataW H)} (ht : Try.prog.underlying t = some (.slice e)) (h : WL t (.slice elems spare)) : (elems.length + spare.length) * Try.prog.bytesOf e ≤ reachBytes := by
  refine h _ ?_
  rw [DataW.weights, ht]
  exact List.mem_cons_self ..
theorem WL.part {H : Type} {t : TypeId} {fs : Array Field} {parts : List (DataW H)} (ht : Try.prog.underlying t = some (.struct fs)) (h : WL t (.agg parts)) {j : Nat} {u : TypeId} {d : DataW H} (hu : (fs.toList.map (·.type))[j]? = some u) (hd : parts[j]? = some d) : WL u d := fun x hx => by
  refine h x ?_
  rw [DataW.weights, ht]
  exact DataW.weights_mem_each hu hd x hx
theorem spot_none {w : World} {a : Addr} {k : Nat} {v : Value} (h : w.cell? (a.add (0 * k)) = some v) : ∃ b off, a = ⟨b, off, none⟩ := by
  obtain ⟨b, off, spot⟩ := a
  have hs : spot = none := by
    have h2 := World.cell?_spot h
    simpa [Addr.add] using h2
  subst hs
  exact ⟨b, off, rfl⟩

theorem int_in {H : Type} {enc : TypeId × Value → H} {w : World} {base : Nat} {spare : Nat → Bool} {held : Bool} {n : Nat} {v : Value} {x : DataW H × List MemPlace} (h : DataW.trod enc Try.prog w base spare held n 3 [v] = some x) :
    ∃ z : Int, v = .int .i64 z ∧ (Lit.int .i64 z).wf = true := by
  obtain ⟨z, hc, _, hw⟩ := DataW.trod_int Try.underlying3 h
  exact ⟨z, by simpa using hc, hw⟩
theorem byt_in {H : Type} {enc : TypeId × Value → H} {w : World} {fuel : Nat} {v : Value} {x : DataW H × List MemPlace}
    (h : DataW.trod enc Try.prog w 0 (fun _ => true) true fuel 25 [v] = some x) (hw : WL 25 x.1) : ∃ B k e q, v = .slice B k e ∧ Byt w B k e q ∧ q.length ≤ 200000000000000 := by
  have h2 := h
  rcases open_slice Try.underlying25 h with ⟨hcs, _⟩ | ⟨a', l', c', m', n', D', Pl', hcs, _, hl', hm', hmm', hx', hi'⟩
  · obtain rfl : v = .slice none 0 0 := by simpa using hcs
    exact ⟨none, 0, 0, [], rfl, byt_nil w, by simp⟩
  · obtain rfl : v = .slice (some a') l' c' := by simpa using hcs
    obtain ⟨zs, hz⟩ := isRow_of Try.underlying25 Try.underlying5 (by kernel_rfl) (⟨_, h2⟩ : DataW.Trod enc Try.prog w 0 (fun _ => true) true 25 (.slice (some a') l' c') _ _)
    have hB := byt_of_row hz
    refine ⟨_, _, _, _, rfl, hB, ?_⟩
    rw [hB.len]
    rw [hx'] at hw
    have h3 := WL.size Try.underlying25 hw
    rw [show Try.prog.bytesOf 5 = 1 from by kernel_rfl] at h3
    simp only [List.length_map, List.length_range, reachBytes] at h3
    omega
set_option maxRecDepth 100000 in
theorem els_of {H : Type} {enc : TypeId × Value → H} {w : World} {d : DataW H} {p : List MemPlace} {A : Option Addr} {len cap : Nat}
    (h : DataW.Trod enc Try.prog w 0 (fun _ => true) true 22 (.slice A len cap) d p) (hw : WL 22 d) : ∃ es, Els w A len es none ∧ len ≤ 6000000000000 ∧ ∀ e ∈ es, (∀ x ∈ e.2, 0 ≤ x ∧ x ≤ 255) ∧ e.2.length ≤ 200000000000000 := by
  obtain ⟨fuel, hf⟩ := h
  have he : Try.prog.underlying 47 = some (.struct (Try.prog.fieldsOf 47)) := by kernel_rfl
  rcases open_slice Try.underlying22 hf with ⟨hcs, _⟩ | ⟨a, l, c, m, n, D, Pl, hcs, _, hl, hm, hmm, hx, hi⟩
  · simp [Value.cells] at hcs
    obtain ⟨rfl, rfl, rfl⟩ := hcs
    exact ⟨[], ⟨rfl, fun k e hk => by simp at hk⟩, by omega, fun e he => by cases he⟩
  · simp [Value.cells] at hcs
    obtain ⟨rfl, rfl, rfl⟩ := hcs
    simp at hmm
    subst hmm
    have hd := congrArg Prod.fst hx
    simp only at hd
    rw [hd] at hw
    have hbytes : len ≤ 6000000000000 := by
      have h1 := WL.size Try.underlying22 hw
      rw [show Try.prog.bytesOf 47 = 32 from by kernel_rfl] at h1
      simp only [List.length_map, List.length_range, reachBytes] at h1
      omega
    have hC : Try.prog.cellsOf 47 = 2 := by kernel_rfl
    have hat : ∀ i, i < len → ∃ (t : Int) (B : Option Addr) (k e : Nat) (q : List Int), w.cell? (a.add (i * 2)) = some (.int .i64 t) ∧ w.cell? (a.add (i * 2 + 1)) = some (.slice B k e) ∧ Byt w B k e q ∧ q.length ≤ 200000000000000 := by
      intro i hil
      have him : i < m := by omega
      obtain ⟨cs', hc, ht'⟩ := hi i him
      rw [hC] at hc
      have hwi : WL 47 (D i) := WL.elem Try.underlying22 hw (List.mem_map.2 ⟨i, List.mem_range.2 hil, rfl⟩)
      obtain ⟨ys, n', hn', hy, hlen, hyl, hfl⟩ := DataW.trod_struct he ht'
      obtain ⟨_, hcl, hcat⟩ := World.cells?_some hc
      obtain ⟨c0, c1, rfl⟩ : ∃ c0 c1, cs' = [c0, c1] := by
        match cs', hcl with
        | [c0, c1], _ => exact ⟨c0, c1, rfl⟩
      have h0 := hfl 0 _ rfl
      have h1 := hfl 1 _ rfl
      have e0 : ys[0]? = some (ys[0]'(by rw [hyl]; decide)) := List.getElem?_eq_getElem _
      have e1 : ys[1]? = some (ys[1]'(by rw [hyl]; decide)) := List.getElem?_eq_getElem _
      rw [e0] at h0
      rw [e1] at h1
      obtain ⟨t, rfl, _⟩ := int_in (v := c0) h0
      have hD : D i = .agg (ys.map (·.1)) := congrArg Prod.fst hy
      rw [hD] at hwi
      have hw1 : WL 25 (ys[1]'(by rw [hyl]; decide)).1 := WL.part he hwi (j := 1) rfl (by rw [List.getElem?_map, e1]; rfl)
      have g0 := hcat 0 (by decide)
      have g1 := hcat 1 (by decide)
      rw [Go.Deep.add_add] at g0 g1
      obtain ⟨B, k, e, q, rfl, hB, hq⟩ := byt_in (v := c1) h1 hw1
      exact ⟨t, B, k, e, q, by simpa using g0, by simpa using g1, hB, hq⟩
    obtain ⟨f, hf'⟩ : ∃ f : Nat → (Int × Option Addr × Nat × Nat × List Int), ∀ i, i < len → w.cell? (a.add (i * 2)) = some (.int .i64 (f i).1) ∧ w.cell? (a.add (i * 2 + 1)) = some (.slice (f i).2.1 (f i).2.2.1 (f i).2.2.2.1) ∧ Byt w (f i).2.1 (f i).2.2.1 (f i).2.2.2.1 (f i).2.2.2.2 ∧ (f i).2.2.2.2.length ≤ 200000000000000 := by
      have hex : ∀ i, ∃ t : Int × Option Addr × Nat × Nat × List Int, i < len → w.cell? (a.add (i * 2)) = some (.int .i64 t.1) ∧ w.cell? (a.add (i * 2 + 1)) = some (.slice t.2.1 t.2.2.1 t.2.2.2.1) ∧ Byt w t.2.1 t.2.2.1 t.2.2.2.1 t.2.2.2.2 ∧ t.2.2.2.2.length ≤ 200000000000000 := by
        intro i
        by_cases h : i < len
        · obtain ⟨t, B, k, e, q, h1, h2, h3, h4⟩ := hat i h
          exact ⟨(t, B, k, e, q), fun _ => ⟨h1, h2, h3, h4⟩⟩
        · exact ⟨(0, none, 0, 0, []), fun h' => absurd h' h⟩
      exact ⟨fun i => Classical.choose (hex i), fun i => Classical.choose_spec (hex i)⟩
    refine ⟨(List.range len).map (fun i => ((f i).1, (f i).2.2.2.2)), ⟨by simp, fun k e hk => ?_⟩, hbytes, fun e he => ?_⟩
    · rw [List.getElem?_map] at hk
      have hkl : k < len := by
        rcases Nat.lt_or_ge k len with h | h
        · exact h
        · rw [List.getElem?_eq_none (by simpa using h)] at hk; cases hk
      rw [List.getElem?_range hkl] at hk
      simp only [Option.map_some, Option.some.injEq] at hk
      subst hk
      obtain ⟨g0, g1, hB, _⟩ := hf' k hkl
      obtain ⟨b, off, rfl⟩ := spot_none (hf' 0 (by omega)).1
      rw [add_none] at g0 g1
      exact ⟨b, off, _, _, _, rfl, cell_block_lt g0, by simp, g0, by rw [Nat.add_assoc]; exact g1, hB, by simp⟩
    · obtain ⟨i, hi', rfl⟩ := List.mem_map.1 he
      rw [List.mem_range] at hi'
      exact ⟨(hf' i hi').2.2.1.ran, (hf' i hi').2.2.2⟩
end Go.Proofs.Ytlkkocphflkgdaa
