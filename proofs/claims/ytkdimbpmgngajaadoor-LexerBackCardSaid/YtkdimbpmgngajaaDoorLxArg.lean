/- How lists of tokens that come in read. -/
import Derived.Test.YtkdimbpmgngajaaDoorLxPr
import Derived.Deep.Slices
import Derived.Deep.Fields
import Derived.ChangeSame
import Derived.Lib.SmallJoins
import Derived.SizedLaws
namespace Go.Proofs.YtkdimbpmgngajaaDoor.Lx
open Go Go.ChangeShapes Go.WideShapes Go.ChangeAt Go.RowKit Go.Deep Go.Lib

/-- Every weight of a datum is within reach. -/
def WL {H : Type} (t : TypeId) (d : DataW H) : Prop := ∀ x ∈ d.weights Tryd.prog t, x ≤ reachBytes
theorem WL.top {H : Type} {ts : List TypeId} {ds : List (DataW H)} (h : (DataW.weightsEach Tryd.prog ts ds).all (· ≤ reachBytes) = true) {j : Nat} {t : TypeId} {d : DataW H} (ht : ts[j]? = some t) (hd : ds[j]? = some d) : WL t d := fun x hx => by
  have := List.all_eq_true.1 h x (DataW.weights_mem_each ht hd x hx)
  simpa using this
theorem weights_all {H : Type} {e : TypeId} {x : Nat} : ∀ {l : List (DataW H)} {d : DataW H}, d ∈ l → x ∈ d.weights Tryd.prog e → x ∈ DataW.weightsAll Tryd.prog e l := by
  intro l
  induction l with
  | nil => intro d h; cases h
  | cons y l ih =>
    intro d h hx
    rw [DataW.weightsAll, List.mem_append]
    rcases List.mem_cons.1 h with rfl | h
    · exact .inl hx
    · exact .inr (ih h hx)
theorem WL.elem {H : Type} {t e : TypeId} {elems spare : List (DataW H)} (ht : Tryd.prog.underlying t = some (.slice e)) (h : WL t (.slice elems spare)) {d : DataW H} (hd : d ∈ elems) : WL e d := fun x hx => by
  refine h x ?_
  rw [DataW.weights, ht]
  exact List.mem_cons_of_mem _ (List.mem_append.2 (.inl (weights_all hd hx)))
theorem WL.size {H : Type} {t e : TypeId} {elems spare : List (DataW H)} (ht : Tryd.prog.underlying t = some (.slice e)) (h : WL t (.slice elems spare)) : (elems.length + spare.length) * Tryd.prog.bytesOf e ≤ reachBytes := by
  refine h _ ?_
  rw [DataW.weights, ht]
  exact List.mem_cons_self ..
theorem WL.part {H : Type} {t : TypeId} {fs : Array Field} {parts : List (DataW H)} (ht : Tryd.prog.underlying t = some (.struct fs)) (h : WL t (.agg parts)) {j : Nat} {u : TypeId} {d : DataW H} (hu : (fs.toList.map (·.type))[j]? = some u) (hd : parts[j]? = some d) : WL u d := fun x hx => by
  refine h x ?_
  rw [DataW.weights, ht]
  exact DataW.weights_mem_each hu hd x hx
theorem spot_none {w : World} {a : Addr} {k : Nat} {v : Value} (h : w.cell? (a.add (0 * k)) = some v) : ∃ b off, a = ⟨b, off, none⟩ := by
  obtain ⟨b, off, spot⟩ := a
  have hs : spot = none := by
    have h2 := World.cell?_spot h
    simpa [Addr.add] using h2
  subst hs
  exact ⟨b, off, rfl⟩
theorem int_inT {H : Type} {enc : TypeId × Value → H} {w : World} {base : Nat} {spare : Nat → Bool} {held : Bool} {n : Nat} {v : Value} {x : DataW H × List MemPlace} (h : DataW.trod enc Tryd.prog w base spare held n 3 [v] = some x) :
    ∃ z : Int, v = .int .i64 z := by
  obtain ⟨z, hc, _, hw⟩ := DataW.trod_int Tryd.underlying3 h
  exact ⟨z, by simpa using hc⟩
theorem str_inT {H : Type} {enc : TypeId × Value → H} {w : World} {base : Nat} {spare : Nat → Bool} {held : Bool} {n : Nat} {v : Value} {x : DataW H × List MemPlace} (h : DataW.trod enc Tryd.prog w base spare held n 9 [v] = some x) (hw : WL 9 x.1) :
    ∃ z : ByteArray, v = .string z ∧ z.size ≤ 140737488351232 := by
  obtain ⟨z, hc, hx, _⟩ := DataW.trod_string (cs := [v]) Tryd.underlying9 h
  refine ⟨z, by simpa using hc, ?_⟩
  subst hx
  have := hw z.data.toList.length (by rw [DataW.weights]; exact List.mem_singleton.2 rfl)
  simpa [reachBytes] using this
theorem list4 {α : Type} {cs : List α} (h : cs.length = 4) : ∃ c0 c1 c2 c3, cs = [c0, c1, c2, c3] := by
  match cs, h with
  | [c0, c1, c2, c3], _ => exact ⟨c0, c1, c2, c3, rfl⟩
/-- A token that comes in. -/
structure TI where
  k : Int
  v : Int
  q : Int
  x : ByteArray
def ti0 : TI := ⟨0, 0, 0, ⟨#[]⟩⟩
def TI.cells (t : TI) : List Value := [.int .i64 t.k, .int .i64 t.v, .int .i64 t.q, .string t.x]
def TsI (w : World) (A : Option Addr) (l : List TI) : Prop := ∀ i, i < l.length → ∃ b off, A = some ⟨b, off, none⟩ ∧ b < w.heap.size ∧ ∀ j, j < 4 → w.cell? ⟨b, off + (i * 4 + j), none⟩ = (l.getD i ti0).cells[j]?
set_option maxRecDepth 100000 in
theorem tk_in {H : Type} {enc : TypeId × Value → H} {w : World} {base : Nat} {spare : Nat → Bool} {held : Bool} {fuel : Nat} {cs : List Value} {x : DataW H × List MemPlace}
    (h : DataW.trod enc Tryd.prog w base spare held fuel 30 cs = some x) (hl : cs.length = 4) (hw : WL 30 x.1) : ∃ t : TI, cs = t.cells ∧ t.x.size ≤ 140737488351232 := by
  have he : Tryd.prog.underlying 30 = some (.struct (Tryd.prog.fieldsOf 30)) := by kernel_rfl
  obtain ⟨c0, c1, c2, c3, rfl⟩ := list4 hl
  obtain ⟨ys, n', hn', hy, hlen, hyl, hfl⟩ := DataW.trod_struct he h
  have h0 := hfl 0 _ rfl
  have e0 : ys[0]? = some (ys[0]'(by rw [hyl]; decide)) := List.getElem?_eq_getElem _
  rw [e0] at h0
  have h1 := hfl 1 _ rfl
  have e1 : ys[1]? = some (ys[1]'(by rw [hyl]; decide)) := List.getElem?_eq_getElem _
  rw [e1] at h1
  have h2 := hfl 2 _ rfl
  have e2 : ys[2]? = some (ys[2]'(by rw [hyl]; decide)) := List.getElem?_eq_getElem _
  rw [e2] at h2
  have h3 := hfl 3 _ rfl
  have e3 : ys[3]? = some (ys[3]'(by rw [hyl]; decide)) := List.getElem?_eq_getElem _
  rw [e3] at h3
  have hD : x.1 = .agg (ys.map (·.1)) := congrArg Prod.fst hy
  rw [hD] at hw
  have hw3 : WL 9 (ys[3]'(by rw [hyl]; decide)).1 := WL.part he hw (j := 3) rfl (by rw [List.getElem?_map, e3]; rfl)
  obtain ⟨u0, hu0⟩ := int_inT (v := c0) h0
  obtain ⟨u1, hu1⟩ := int_inT (v := c1) h1
  obtain ⟨u2, hu2⟩ := int_inT (v := c2) h2
  obtain ⟨u3, hu3, s3⟩ := str_inT (v := c3) h3 hw3
  subst hu0 hu1 hu2 hu3
  exact ⟨⟨u0, u1, u2, u3⟩, rfl, s3⟩
set_option maxRecDepth 100000 in
theorem tks_of {H : Type} {enc : TypeId × Value → H} {w : World} {d : DataW H} {p : List MemPlace} {A : Option Addr} {len cap : Nat}
    (h : DataW.Trod enc Tryd.prog w 0 (fun _ => true) true 23 (.slice A len cap) d p) (hw : WL 23 d) : ∃ l : List TI, l.length = len ∧ len ≤ cap ∧ cap ≤ maxLen ∧ TsI w A l ∧ ∀ t ∈ l, t.x.size ≤ 140737488351232 := by
  obtain ⟨fuel, hf⟩ := h
  rcases open_slice Tryd.underlying23 hf with ⟨hcs, _⟩ | ⟨a, l, c, m, n, D, Pl, hcs, _, hl, hm, hmm, hx, hi⟩
  · simp [Value.cells] at hcs
    obtain ⟨rfl, rfl, rfl⟩ := hcs
    exact ⟨[], rfl, Nat.le_refl _, Nat.zero_le _, fun k hk => absurd hk (Nat.not_lt_zero k), fun z hz => by cases hz⟩
  · simp [Value.cells] at hcs
    obtain ⟨rfl, rfl, rfl⟩ := hcs
    simp at hmm
    subst hmm
    have hx : d = _ := congrArg Prod.fst hx
    rw [hx] at hw
    have hC : Tryd.prog.cellsOf 30 = 4 := by kernel_rfl
    have hat : ∀ i, i < len → ∃ y : TI, (∀ j, j < 4 → w.cell? (a.add (i * 4 + j)) = y.cells[j]?) ∧ y.x.size ≤ 140737488351232 := by
      intro i hil
      obtain ⟨cs', hc, ht'⟩ := hi i (by omega)
      rw [hC] at hc
      obtain ⟨_, hcl, hcat⟩ := World.cells?_some hc
      have hwi : WL 30 (D i) := WL.elem Tryd.underlying23 hw (List.mem_map.2 ⟨i, List.mem_range.2 hil, rfl⟩)
      obtain ⟨t, rfl, ht⟩ := tk_in ht' hcl hwi
      refine ⟨t, fun j hj => ?_, ht⟩
      have g := hcat j hj
      rw [Go.Deep.add_add] at g
      exact g
    obtain ⟨f, hf'⟩ : ∃ f : Nat → TI, ∀ i, i < len → (∀ j, j < 4 → w.cell? (a.add (i * 4 + j)) = (f i).cells[j]?) ∧ (f i).x.size ≤ 140737488351232 := by
      refine ⟨fun i => if h : i < len then Classical.choose (hat i h) else ti0, fun i hi' => ?_⟩
      simp only [dif_pos hi']
      exact Classical.choose_spec (hat i hi')
    refine ⟨(List.range len).map f, by simp, by omega, by omega, fun k hk => ?_, fun z hz => ?_⟩
    · simp at hk
      obtain ⟨g, gz⟩ := hf' k hk
      obtain ⟨b, off, rfl⟩ := spot_none (k := 4) ((hf' 0 (by omega)).1 0 (by decide))
      have e : ((List.range len).map f).getD k ti0 = f k := by simp [List.getD, List.getElem?_map, List.getElem?_range hk]
      have g0 := g 0 (by decide)
      rw [add_none] at g0
      have hb := cell_block_lt (g0.trans rfl)
      rw [e]
      refine ⟨b, off, rfl, hb, fun j hj => ?_⟩
      have gj := g j hj
      rwa [add_none] at gj
    · obtain ⟨k, hk, rfl⟩ := List.mem_map.1 hz
      exact (hf' k (List.mem_range.1 hk)).2
end Go.Proofs.YtkdimbpmgngajaaDoor.Lx
