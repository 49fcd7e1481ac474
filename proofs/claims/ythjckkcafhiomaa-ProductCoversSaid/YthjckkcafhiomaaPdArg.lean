/- How lists of products that come in read. -/
import Derived.Test.YthjckkcafhiomaaPdV
import Derived.Deep.Slices
import Derived.Deep.Fields
import Derived.ChangeSame
import Derived.Lib.SmallJoins
import Derived.SizedLaws
namespace Go.Proofs.Ythjckkcafhiomaa.Pd
open Go.ChangeShapes Go.WideShapes Go.ChangeAt Go.RowKit Go.Deep

/-- Every weight of a datum is within reach. -/
def WL {H : Type} (t : TypeId) (d : DataW H) : Prop := ∀ x ∈ d.weights Try.prog t, x ≤ reachBytes
theorem WL.top {H : Type} {ts : List TypeId} {ds : List (DataW H)} (h : (DataW.weightsEach Try.prog ts ds).all (· ≤ reachBytes) = true) {j : Nat} {t : TypeId} {d : DataW H} (ht : ts[j]? = some t) (hd : ds[j]? = some d) : WL t d := fun x hx => by
  have := List.all_eq_true.1 h x (DataW.weights_mem_each ht hd x hx)
  simpa using this
theorem weights_all {H : Type} {e : TypeId} {x : Nat} : ∀ {l : List (DataW H)} {d : DataW H}, d ∈ l → x ∈ d.weights Try.prog e → x ∈ DataW.weightsAll Try.prog e l := by
  intro l
  induction l with
  | nil => intro d h; cases h
  | cons y l ih =>
    intro d h hx
    rw [DataW.weightsAll, List.mem_append]
    rcases List.mem_cons.1 h with rfl | h
    · exact .inl hx
    · exact .inr (ih h hx)
theorem WL.elem {H : Type} {t e : TypeId} {elems spare : List (DataW H)} (ht : Try.prog.underlying t = some (.slice e)) (h : WL t (.slice elems spare)) {d : DataW H} (hd : d ∈ elems) : WL e d := fun x hx => by
  refine h x ?_
  rw [DataW.weights, ht]
  exact List.mem_cons_of_mem _ (List.mem_append.2 (.inl (weights_all hd hx)))
theorem WL.size {H : Type} {t e : TypeId} {elems spare : List (DataW H)} (ht : Try.prog.underlying t = some (.slice e)) (h : WL t (.slice elems spare)) : (elems.length + spare.length) * Try.prog.bytesOf e ≤ reachBytes := by
  refine h _ ?_
  rw [DataW.weights, ht]
  exact List.mem_cons_self ..
theorem WL.part {H : Type} {t : TypeId} {fs : Array Field} {parts : List (DataW H)} (ht : Try.prog.underlying t = some (.struct fs)) (h : WL t (.agg parts)) {j : Nat} {u : TypeId} {d : DataW H} (hu : (fs.toList.map (·.type))[j]? = some u) (hd : parts[j]? = some d) : WL u d := fun x hx => by
  refine h x ?_
  rw [DataW.weights, ht]
  exact DataW.weights_mem_each hu hd x hx
theorem spot_none {w : World} {a : Addr} {k : Nat} {v : Value} (h : w.cell? (a.add (0 * k)) = some v) : ∃ b off, a = ⟨b, off, none⟩ := by
  obtain ⟨b, off, spot⟩ := a
  have hs : spot = none := by
    have h2 := World.cell?_spot h
    simpa [Addr.add] using h2
  subst hs
  exact ⟨b, off, rfl⟩
theorem int_inV {H : Type} {enc : TypeId × Value → H} {w : World} {base : Nat} {spare : Nat → Bool} {held : Bool} {n : Nat} {v : Value} {x : DataW H × List MemPlace} (h : DataW.trod enc Try.prog w base spare held n 3 [v] = some x) :
    ∃ z : Int, v = .int .i64 z := by
  obtain ⟨z, hc, _, hw⟩ := DataW.trod_int Try.underlying3 h
  exact ⟨z, by simpa using hc⟩
theorem str_inV {H : Type} {enc : TypeId × Value → H} {w : World} {base : Nat} {spare : Nat → Bool} {held : Bool} {n : Nat} {v : Value} {x : DataW H × List MemPlace} (h : DataW.trod enc Try.prog w base spare held n 9 [v] = some x) :
    ∃ z : ByteArray, v = .string z ∧ z.size ≤ maxLen := by
  obtain ⟨z, hc, _, hw⟩ := DataW.trod_string (cs := [v]) Try.underlying9 h
  exact ⟨z, by simpa using hc, hw⟩
theorem bool_inV {H : Type} {enc : TypeId × Value → H} {w : World} {base : Nat} {spare : Nat → Bool} {held : Bool} {n : Nat} {v : Value} {x : DataW H × List MemPlace} (h : DataW.trod enc Try.prog w base spare held n 4 [v] = some x) :
    ∃ z : Bool, v = .bool z := by
  obtain ⟨z, hc, _⟩ := DataW.trod_bool Try.underlying4 h
  exact ⟨z, by simpa using hc⟩
theorem list6 {α : Type} {cs : List α} (h : cs.length = 6) : ∃ c0 c1 c2 c3 c4 c5, cs = [c0, c1, c2, c3, c4, c5] := by
  match cs, h with
  | [c0, c1, c2, c3, c4, c5], _ => exact ⟨c0, c1, c2, c3, c4, c5, rfl⟩
set_option maxRecDepth 100000 in
theorem zs_in {H : Type} {enc : TypeId × Value → H} {w : World} {base : Nat} {held : Bool} {fuel : Nat} {v : Value} {x : DataW H × List MemPlace}
    (h : DataW.trod enc Try.prog w base (fun _ => true) held fuel 34 [v] = some x) (hw : WL 34 x.1) : ∃ A n c zs, v = .slice A n c ∧ zs.length = n ∧ n ≤ c ∧ c ≤ maxLen ∧ (A = none → n = 0) ∧ ZsR w A zs ∧ n ≤ 8796093021952 := by
  rcases open_slice Try.underlying34 h with ⟨hcs, _⟩ | ⟨a, l, c, m, n, D, Pl, hcs, _, hl, hm, hmm, hx, hi⟩
  · obtain rfl : v = .slice none 0 0 := by simpa using hcs
    exact ⟨none, 0, 0, [], rfl, rfl, Nat.le_refl _, by decide, fun _ => rfl, ZsR.nil, by omega⟩
  · obtain rfl : v = .slice (some a) l c := by simpa using hcs
    simp at hmm
    subst hmm
    have hbytes : l ≤ 8796093021952 := by
      rw [hx] at hw
      have h1 := WL.size Try.underlying34 hw
      rw [show Try.prog.bytesOf 9 = 16 from by kernel_rfl] at h1
      simp only [List.length_map, List.length_range, reachBytes] at h1
      omega
    have hC : Try.prog.cellsOf 9 = 1 := by kernel_rfl
    have hat : ∀ i, i < m → ∃ s : ByteArray, w.cell? (a.add (i * 1)) = some (.string s) ∧ s.size ≤ maxLen := by
      intro i him
      obtain ⟨cs', hc, ht'⟩ := hi i him
      rw [hC] at hc
      obtain ⟨_, hcl, hcat⟩ := World.cells?_some hc
      obtain ⟨c0, rfl⟩ : ∃ c0, cs' = [c0] := by
        match cs', hcl with
        | [c0], _ => exact ⟨c0, rfl⟩
      obtain ⟨s, rfl, hs⟩ := str_inV (v := c0) ht'
      have g0 := hcat 0 (by decide)
      rw [Go.Deep.add_add] at g0
      exact ⟨s, by simpa using g0, hs⟩
    obtain ⟨f, hf'⟩ : ∃ f : Nat → ByteArray, ∀ i, i < m → w.cell? (a.add (i * 1)) = some (.string (f i)) ∧ (f i).size ≤ maxLen := by
      refine ⟨fun i => if h : i < m then Classical.choose (hat i h) else zs0, fun i hi' => ?_⟩
      simp only [dif_pos hi']
      exact Classical.choose_spec (hat i hi')
    refine ⟨_, l, m, (List.range l).map f, rfl, by simp, hl, hm, (by simp), fun k hk => ?_, hbytes⟩
    simp at hk
    obtain ⟨g0, gs⟩ := hf' k (by omega)
    obtain ⟨b, off, rfl⟩ := spot_none (hf' 0 (by omega)).1
    rw [add_none, Nat.mul_one] at g0
    have hb := cell_block_lt g0
    have e : ((List.range l).map f).getD k zs0 = f k := by simp [List.getD, List.getElem?_map, List.getElem?_range hk]
    rw [e]
    exact ⟨b, off, rfl, hb, g0, gs⟩
set_option maxRecDepth 100000 in
theorem bnd_in {H : Type} {enc : TypeId × Value → H} {w : World} {base : Nat} {held : Bool} {fuel : Nat} {cs : List Value} {x : DataW H × List MemPlace}
    (h : DataW.trod enc Try.prog w base (fun _ => true) held fuel 48 cs = some x) (hl : cs.length = 6) (hw : WL 48 x.1) : ∃ b : Bn, cs = b.cells.toList ∧ BnOk w b := by
  have he : Try.prog.underlying 48 = some (.struct (Try.prog.fieldsOf 48)) := by kernel_rfl
  obtain ⟨c0, c1, c2, c3, c4, c5, rfl⟩ := list6 hl
  obtain ⟨ys, n', hn', hy, hlen, hyl, hfl⟩ := DataW.trod_struct he h
  have h0 := hfl 0 _ rfl
  have e0 : ys[0]? = some (ys[0]'(by rw [hyl]; decide)) := List.getElem?_eq_getElem _
  rw [e0] at h0
  have h1 := hfl 1 _ rfl
  have e1 : ys[1]? = some (ys[1]'(by rw [hyl]; decide)) := List.getElem?_eq_getElem _
  rw [e1] at h1
  have h2 := hfl 2 _ rfl
  have e2 : ys[2]? = some (ys[2]'(by rw [hyl]; decide)) := List.getElem?_eq_getElem _
  rw [e2] at h2
  have h3 := hfl 3 _ rfl
  have e3 : ys[3]? = some (ys[3]'(by rw [hyl]; decide)) := List.getElem?_eq_getElem _
  rw [e3] at h3
  have h4 := hfl 4 _ rfl
  have e4 : ys[4]? = some (ys[4]'(by rw [hyl]; decide)) := List.getElem?_eq_getElem _
  rw [e4] at h4
  have h5 := hfl 5 _ rfl
  have e5 : ys[5]? = some (ys[5]'(by rw [hyl]; decide)) := List.getElem?_eq_getElem _
  rw [e5] at h5
  have hD : x.1 = .agg (ys.map (·.1)) := congrArg Prod.fst hy
  rw [hD] at hw
  have hw1 : WL 34 (ys[1]'(by rw [hyl]; decide)).1 := WL.part he hw (j := 1) rfl (by rw [List.getElem?_map, e1]; rfl)
  obtain ⟨u0, hu0⟩ := int_inV (v := c0) h0
  obtain ⟨A, n, c, zs, hv, k1, k2, k3, k4, k5, k6⟩ := zs_in h1 hw1
  obtain ⟨u2, hu2⟩ := int_inV (v := c2) h2
  obtain ⟨u3, hu3⟩ := int_inV (v := c3) h3
  obtain ⟨u4, hu4⟩ := int_inV (v := c4) h4
  obtain ⟨u5, hu5⟩ := bool_inV (v := c5) h5
  subst hu0 hv hu2 hu3 hu4 hu5
  exact ⟨⟨u0, A, n, c, u2, u3, u4, u5, zs⟩, rfl, ⟨k1, k2, k3, k4, k5, k6⟩⟩
set_option maxRecDepth 100000 in
theorem bns_in {H : Type} {enc : TypeId × Value → H} {w : World} {base : Nat} {held : Bool} {fuel : Nat} {v : Value} {x : DataW H × List MemPlace}
    (h : DataW.trod enc Try.prog w base (fun _ => true) held fuel 27 [v] = some x) (hw : WL 27 x.1) : ∃ A n c l, v = .slice A n c ∧ l.length = n ∧ n ≤ c ∧ c ≤ maxLen ∧ (A = none → n = 0) ∧ BnR w A l := by
  rcases open_slice Try.underlying27 h with ⟨hcs, _⟩ | ⟨a, l, c, m, n, D, Pl, hcs, _, hl, hm, hmm, hx, hi⟩
  · obtain rfl : v = .slice none 0 0 := by simpa using hcs
    exact ⟨none, 0, 0, [], rfl, rfl, Nat.le_refl _, by decide, fun _ => rfl, BnR.nil⟩
  · obtain rfl : v = .slice (some a) l c := by simpa using hcs
    simp at hmm
    subst hmm
    rw [hx] at hw
    have hC : Try.prog.cellsOf 48 = 6 := by kernel_rfl
    have hat : ∀ i, i < l → ∃ b : Bn, (∀ j, j < 6 → w.cell? (a.add (i * 6 + j)) = b.cells[j]?) ∧ BnOk w b := by
      intro i hil
      obtain ⟨cs', hc, ht'⟩ := hi i (by omega)
      rw [hC] at hc
      obtain ⟨_, hcl, hcat⟩ := World.cells?_some hc
      have hwi : WL 48 (D i) := WL.elem Try.underlying27 hw (List.mem_map.2 ⟨i, List.mem_range.2 hil, rfl⟩)
      obtain ⟨b, rfl, hb⟩ := bnd_in ht' hcl hwi
      refine ⟨b, fun j hj => ?_, hb⟩
      have g := hcat j hj
      rw [Go.Deep.add_add] at g
      rw [g, Array.getElem?_toList]
    obtain ⟨f, hf'⟩ : ∃ f : Nat → Bn, ∀ i, i < l → (∀ j, j < 6 → w.cell? (a.add (i * 6 + j)) = (f i).cells[j]?) ∧ BnOk w (f i) := by
      refine ⟨fun i => if h : i < l then Classical.choose (hat i h) else bn0, fun i hi' => ?_⟩
      simp only [dif_pos hi']
      exact Classical.choose_spec (hat i hi')
    refine ⟨_, l, m, (List.range l).map f, rfl, by simp, hl, hm, (by simp), fun k hk => ?_⟩
    simp at hk
    obtain ⟨g, gb⟩ := hf' k hk
    obtain ⟨b, off, rfl⟩ := spot_none (k := 0) (((hf' 0 (by omega)).1 0 (by omega)).trans rfl)
    have e : ((List.range l).map f).getD k bn0 = f k := by simp [List.getD, List.getElem?_map, List.getElem?_range hk]
    have g0 := g 0 (by omega)
    rw [add_none] at g0
    have hb := cell_block_lt (g0.trans rfl)
    refine ⟨b, off, rfl, hb, fun j hj => ?_, by rw [e]; exact gb⟩
    have gj := g j hj
    rw [add_none] at gj
    rw [show off + k * 6 + j = off + (k * 6 + j) by omega, gj, e]
set_option maxRecDepth 100000 in
theorem prd_in {H : Type} {enc : TypeId × Value → H} {w : World} {base : Nat} {held : Bool} {fuel : Nat} {cs : List Value} {x : DataW H × List MemPlace}
    (h : DataW.trod enc Try.prog w base (fun _ => true) held fuel 29 cs = some x) (hl : cs.length = 6) (hw : WL 29 x.1) : ∃ p : Pr, cs = p.cells.toList ∧ PrOk w p := by
  have he : Try.prog.underlying 29 = some (.struct (Try.prog.fieldsOf 29)) := by kernel_rfl
  obtain ⟨c0, c1, c2, c3, c4, c5, rfl⟩ := list6 hl
  obtain ⟨ys, n', hn', hy, hlen, hyl, hfl⟩ := DataW.trod_struct he h
  have h0 := hfl 0 _ rfl
  have e0 : ys[0]? = some (ys[0]'(by rw [hyl]; decide)) := List.getElem?_eq_getElem _
  rw [e0] at h0
  have h1 := hfl 1 _ rfl
  have e1 : ys[1]? = some (ys[1]'(by rw [hyl]; decide)) := List.getElem?_eq_getElem _
  rw [e1] at h1
  have h2 := hfl 2 _ rfl
  have e2 : ys[2]? = some (ys[2]'(by rw [hyl]; decide)) := List.getElem?_eq_getElem _
  rw [e2] at h2
  have h3 := hfl 3 _ rfl
  have e3 : ys[3]? = some (ys[3]'(by rw [hyl]; decide)) := List.getElem?_eq_getElem _
  rw [e3] at h3
  have h4 := hfl 4 _ rfl
  have e4 : ys[4]? = some (ys[4]'(by rw [hyl]; decide)) := List.getElem?_eq_getElem _
  rw [e4] at h4
  have h5 := hfl 5 _ rfl
  have e5 : ys[5]? = some (ys[5]'(by rw [hyl]; decide)) := List.getElem?_eq_getElem _
  rw [e5] at h5
  have hD : x.1 = .agg (ys.map (·.1)) := congrArg Prod.fst hy
  rw [hD] at hw
  have hw5 : WL 27 (ys[5]'(by rw [hyl]; decide)).1 := WL.part he hw (j := 5) rfl (by rw [List.getElem?_map, e5]; rfl)
  obtain ⟨u0, hu0, s0⟩ := str_inV (v := c0) h0
  obtain ⟨u1, hu1⟩ := int_inV (v := c1) h1
  obtain ⟨u2, hu2⟩ := int_inV (v := c2) h2
  obtain ⟨u3, hu3, s3⟩ := str_inV (v := c3) h3
  obtain ⟨u4, hu4⟩ := bool_inV (v := c4) h4
  obtain ⟨A, n, c, bs, hv, k1, k2, k3, k4, k5⟩ := bns_in h5 hw5
  subst hu0 hu1 hu2 hu3 hu4 hv
  exact ⟨⟨u0, u1, u2, u3, u4, A, n, c, bs⟩, rfl, ⟨k1, k2, k3, k4, k5, s0, s3⟩⟩
set_option maxRecDepth 100000 in
theorem prs_of {H : Type} {enc : TypeId × Value → H} {w : World} {d : DataW H} {p : List MemPlace} {A : Option Addr} {len cap : Nat}
    (h : DataW.Trod enc Try.prog w 0 (fun _ => true) true 22 (.slice A len cap) d p) (hw : WL 22 d) : ∃ l : List Pr, l.length = len ∧ len ≤ cap ∧ cap ≤ maxLen ∧ PrR w A l := by
  obtain ⟨fuel, hf⟩ := h
  rcases open_slice Try.underlying22 hf with ⟨hcs, _⟩ | ⟨a, l, c, m, n, D, Pl, hcs, _, hl, hm, hmm, hx, hi⟩
  · simp [Value.cells] at hcs
    obtain ⟨rfl, rfl, rfl⟩ := hcs
    exact ⟨[], rfl, Nat.le_refl _, Nat.zero_le _, PrR.nil⟩
  · simp [Value.cells] at hcs
    obtain ⟨rfl, rfl, rfl⟩ := hcs
    simp at hmm
    subst hmm
    have hx : d = _ := congrArg Prod.fst hx
    rw [hx] at hw
    have hC : Try.prog.cellsOf 29 = 6 := by kernel_rfl
    have hat : ∀ i, i < len → ∃ b : Pr, (∀ j, j < 6 → w.cell? (a.add (i * 6 + j)) = b.cells[j]?) ∧ PrOk w b := by
      intro i hil
      obtain ⟨cs', hc, ht'⟩ := hi i (by omega)
      rw [hC] at hc
      obtain ⟨_, hcl, hcat⟩ := World.cells?_some hc
      have hwi : WL 29 (D i) := WL.elem Try.underlying22 hw (List.mem_map.2 ⟨i, List.mem_range.2 hil, rfl⟩)
      obtain ⟨b, rfl, hb⟩ := prd_in ht' hcl hwi
      refine ⟨b, fun j hj => ?_, hb⟩
      have g := hcat j hj
      rw [Go.Deep.add_add] at g
      rw [g, Array.getElem?_toList]
    obtain ⟨f, hf'⟩ : ∃ f : Nat → Pr, ∀ i, i < len → (∀ j, j < 6 → w.cell? (a.add (i * 6 + j)) = (f i).cells[j]?) ∧ PrOk w (f i) := by
      refine ⟨fun i => if h : i < len then Classical.choose (hat i h) else pr0, fun i hi' => ?_⟩
      simp only [dif_pos hi']
      exact Classical.choose_spec (hat i hi')
    refine ⟨(List.range len).map f, by simp, by omega, by omega, fun k hk => ?_⟩
    simp at hk
    obtain ⟨g, gb⟩ := hf' k hk
    obtain ⟨b, off, rfl⟩ := spot_none (k := 0) (((hf' 0 (by omega)).1 0 (by omega)).trans rfl)
    have e : ((List.range len).map f).getD k pr0 = f k := by simp [List.getD, List.getElem?_map, List.getElem?_range hk]
    have g0 := g 0 (by omega)
    rw [add_none] at g0
    have hb := cell_block_lt (g0.trans rfl)
    refine ⟨b, off, rfl, hb, fun j hj => ?_, by rw [e]; exact gb⟩
    have gj := g j hj
    rw [add_none] at gj
    rw [show off + k * 6 + j = off + (k * 6 + j) by omega, gj, e]
end Go.Proofs.Ythjckkcafhiomaa.Pd
namespace Go.Proofs.Ythjckkcafhiomaa
open Go.ChangeShapes Go.WideShapes Go.ChangeAt Go.RowKit Go.Deep
theorem int_in {H : Type} {enc : TypeId × Value → H} {w : World} {base : Nat} {spare : Nat → Bool} {held : Bool} {n : Nat} {v : Value} {x : DataW H × List MemPlace} (h : DataW.trod enc Try.prog w base spare held n 3 [v] = some x) :
    ∃ z : Int, v = .int .i64 z ∧ (Lit.int .i64 z).wf = true := by
  obtain ⟨z, hc, _, hw⟩ := DataW.trod_int Try.underlying3 h
  exact ⟨z, by simpa using hc, hw⟩
theorem open_period {H : Type} {enc : TypeId × Value → H} {w : World} {base : Nat} {spare : Nat → Bool} {held : Bool} {r : Reach} {b0 : Nat} {v : Value} {d : DataW H} {p : List MemPlace}
    (hv : Value.okWide Try.prog w r b0 38 v) (h : DataW.Trod enc Try.prog w base spare held 38 v d p) : ∃ x y : Int, v = .agg #[.int .i64 x, .int .i64 y] ∧ (Lit.int .i64 x).wf = true ∧ (Lit.int .i64 y).wf = true := by
  obtain ⟨v0, v1, y0, y1, n, rfl, _, _, h0, h1⟩ := Go.Joins.open_agg2 Try.underlying38 (by kernel_rfl) (by kernel_rfl) hv h
  obtain ⟨a, rfl, ha⟩ := int_in h0
  obtain ⟨b, rfl, hb⟩ := int_in h1
  exact ⟨a, b, rfl, ha, hb⟩
end Go.Proofs.Ythjckkcafhiomaa
