/- How ladders and expressions that come in read. -/
import Derived.Test.YtcjceecdcjjnfaaCkV
import Derived.Test.YtcjceecdcjjnfaaLawKit
import Derived.Deep.Slices
import Derived.Deep.Fields
import Derived.ChangeSame
import Derived.Lib.SmallJoins
import Derived.SizedLaws
namespace Go.Proofs.Ytcjceecdcjjnfaa.Ck
open Go.ChangeShapes Go.WideShapes Go.ChangeAt Go.RowKit Go.Deep Go.Lib

/-- Every weight of a datum is within reach. -/
def WL {H : Type} (t : TypeId) (d : DataW H) : Prop := ∀ x ∈ d.weights Try.prog t, x ≤ reachBytes
theorem WL.top {H : Type} {ts : List TypeId} {ds : List (DataW H)} (h : (DataW.weightsEach Try.prog ts ds).all (· ≤ reachBytes) = true) {j : Nat} {t : TypeId} {d : DataW H} (ht : ts[j]? = some t) (hd : ds[j]? = some d) : WL t d := fun x hx => by
  have := List.all_eq_true.1 h x (DataW.weights_mem_each ht hd x hx)
  simpa using this
theorem weights_all {H : Type} {e : TypeId} {x : Nat} : ∀ {l : List (DataW H)} {d : DataW H}, d ∈ l → x ∈ d.weights Try.prog e → x ∈ DataW.weightsAll Try.prog e l := by
  intro l
  induction l with
  | nil => intro d h; cases h
  | cons y l ih =>
    intro d h hx
    rw [DataW.weightsAll, List.mem_append]
    rcases List.mem_cons.1 h with rfl | h
    · exact .inl hx
    · exact .inr (ih h hx)
theorem WL.elem {H : Type} {t e : TypeId} {elems spare : List (DataW H)} (ht : Try.prog.underlying t = some (.slice e)) (h : WL t (.slice elems spare)) {d : DataW H} (hd : d ∈ elems) : WL e d := fun x hx => by
  refine h x ?_
  rw [DataW.weights, ht]
  exact List.mem_cons_of_mem _ (List.mem_append.2 (.inl (weights_all hd hx)))
theorem WL.size {H : Type} {t e : TypeId} {elems spare : List (DataW H)} (ht : Try.prog.underlying t = some (.slice e)) (h : WL t (.slice elems spare)) : (elems.length + spare.length) * Try.prog.bytesOf e ≤ reachBytes := by
  refine h _ ?_
  rw [DataW.weights, ht]
  exact List.mem_cons_self ..
theorem WL.part {H : Type} {t : TypeId} {fs : Array Field} {parts : List (DataW H)} (ht : Try.prog.underlying t = some (.struct fs)) (h : WL t (.agg parts)) {j : Nat} {u : TypeId} {d : DataW H} (hu : (fs.toList.map (·.type))[j]? = some u) (hd : parts[j]? = some d) : WL u d := fun x hx => by
  refine h x ?_
  rw [DataW.weights, ht]
  exact DataW.weights_mem_each hu hd x hx
theorem spot_none {w : World} {a : Addr} {k : Nat} {v : Value} (h : w.cell? (a.add (0 * k)) = some v) : ∃ b off, a = ⟨b, off, none⟩ := by
  obtain ⟨b, off, spot⟩ := a
  have hs : spot = none := by
    have h2 := World.cell?_spot h
    simpa [Addr.add] using h2
  subst hs
  exact ⟨b, off, rfl⟩
theorem int_inV {H : Type} {enc : TypeId × Value → H} {w : World} {base : Nat} {spare : Nat → Bool} {held : Bool} {n : Nat} {v : Value} {x : DataW H × List MemPlace} (h : DataW.trod enc Try.prog w base spare held n 3 [v] = some x) :
    ∃ z : Int, v = .int .i64 z := by
  obtain ⟨z, hc, _, hw⟩ := DataW.trod_int Try.underlying3 h
  exact ⟨z, by simpa using hc⟩
theorem str_inV {H : Type} {enc : TypeId × Value → H} {w : World} {base : Nat} {spare : Nat → Bool} {held : Bool} {n : Nat} {v : Value} {x : DataW H × List MemPlace} (h : DataW.trod enc Try.prog w base spare held n 9 [v] = some x) :
    ∃ z : ByteArray, v = .string z ∧ z.size ≤ maxLen := by
  obtain ⟨z, hc, _, hw⟩ := DataW.trod_string (cs := [v]) Try.underlying9 h
  exact ⟨z, by simpa using hc, hw⟩
theorem bool_inV {H : Type} {enc : TypeId × Value → H} {w : World} {base : Nat} {spare : Nat → Bool} {held : Bool} {n : Nat} {v : Value} {x : DataW H × List MemPlace} (h : DataW.trod enc Try.prog w base spare held n 4 [v] = some x) :
    ∃ z : Bool, v = .bool z := by
  obtain ⟨z, hc, _⟩ := DataW.trod_bool Try.underlying4 h
  exact ⟨z, by simpa using hc⟩
theorem list3 {α : Type} {cs : List α} (h : cs.length = 3) : ∃ c0 c1 c2, cs = [c0, c1, c2] := by
  match cs, h with
  | [c0, c1, c2], _ => exact ⟨c0, c1, c2, rfl⟩
theorem list4 {α : Type} {cs : List α} (h : cs.length = 4) : ∃ c0 c1 c2 c3, cs = [c0, c1, c2, c3] := by
  match cs, h with
  | [c0, c1, c2, c3], _ => exact ⟨c0, c1, c2, c3, rfl⟩
/-- A slice that comes in, element by element. -/
theorem open_sl {H : Type} {enc : TypeId × Value → H} {w : World} {base : Nat} {spare : Nat → Bool} {held : Bool} {t e : TypeId} {fuel : Nat} {cs : List Value} {x : DataW H × List MemPlace} (ht : Try.prog.underlying t = some (.slice e)) (h : DataW.trod enc Try.prog w base spare held fuel t cs = some x) :
    cs = [.slice none 0 0] ∨ ∃ (a : Addr) (len cap n : Nat) (elems sp : List (DataW H)), fuel = n + 1 ∧ cs = [.slice (some a) len cap] ∧ len ≤ cap ∧ cap ≤ maxLen ∧ x.1 = .slice elems sp ∧ elems.length = len ∧
      ∀ i, i < len → ∃ cs' y, w.cells? base (a.add (i * Try.prog.cellsOf e)) (Try.prog.cellsOf e) = some cs' ∧ DataW.trod enc Try.prog w base spare held n e cs' = some y ∧ y.1 ∈ elems := by
  rcases DataW.trod_slice ht h with h0 | ⟨a, len, cap, elems, rest, n, hf, h1, h2, hb, hl, hm, hlen, hel, _⟩
  · exact .inl h0.1
  · refine .inr ⟨a, len, cap, n, elems.map (·.1), rest.map (·.1), hf, h1, hl, hm, by rw [h2], by rw [List.length_map, hlen], fun i hi => ?_⟩
    have key := hel i hi
    rw [List.getElem?_eq_getElem (by omega)] at key
    obtain ⟨cs', k1, k2⟩ := Option.bind_eq_some_iff.1 key
    exact ⟨cs', _, k1, k2, List.mem_map.2 ⟨_, List.getElem_mem _, rfl⟩⟩
theorem spot0 {w : World} {a : Addr} {v : Value} (h : w.cell? a = some v) : ∃ b off, a = ⟨b, off, none⟩ := by
  obtain ⟨b, off, spot⟩ := a
  have hs : spot = none := World.cell?_spot h
  subst hs
  exact ⟨b, off, rfl⟩
set_option maxRecDepth 100000 in
theorem stp_in {H : Type} {enc : TypeId × Value → H} {w : World} {base : Nat} {spare : Nat → Bool} {held : Bool} {fuel : Nat} {cs : List Value} {x : DataW H × List MemPlace}
    (h : DataW.trod enc Try.prog w base spare held fuel 37 cs = some x) (hl : cs.length = 3) : ∃ s : Sp, cs = s.cells.toList := by
  have he : Try.prog.underlying 37 = some (.struct (Try.prog.fieldsOf 37)) := by kernel_rfl
  obtain ⟨c0, c1, c2, rfl⟩ := list3 hl
  obtain ⟨ys, n', hn', hy, hlen, hyl, hfl⟩ := DataW.trod_struct he h
  have h0 := hfl 0 _ rfl
  rw [List.getElem?_eq_getElem (show 0 < ys.length by rw [hyl]; decide)] at h0
  have h1 := hfl 1 _ rfl
  rw [List.getElem?_eq_getElem (show 1 < ys.length by rw [hyl]; decide)] at h1
  have h2 := hfl 2 _ rfl
  rw [List.getElem?_eq_getElem (show 2 < ys.length by rw [hyl]; decide)] at h2
  obtain ⟨u0, rfl⟩ := int_inV (v := c0) h0
  obtain ⟨u1, rfl⟩ := int_inV (v := c1) h1
  obtain ⟨u2, rfl⟩ := int_inV (v := c2) h2
  exact ⟨⟨u0, u1, u2⟩, rfl⟩
set_option maxRecDepth 100000 in
theorem sps_in {H : Type} {enc : TypeId × Value → H} {w : World} {base : Nat} {spare : Nat → Bool} {held : Bool} {fuel : Nat} {v : Value} {x : DataW H × List MemPlace}
    (h : DataW.trod enc Try.prog w base spare held fuel 22 [v] = some x) : ∃ A n c l, v = .slice A n c ∧ l.length = n ∧ n ≤ c ∧ c ≤ maxLen ∧ SpR w A l := by
  rcases open_sl Try.underlying22 h with hcs | ⟨a, l, c, n, E, S, _, hcs, hl, hm, _, _, hi⟩
  · obtain rfl : v = .slice none 0 0 := by simpa using hcs
    exact ⟨none, 0, 0, [], rfl, rfl, Nat.le_refl _, by decide, SpR.nil _ _⟩
  · obtain rfl : v = .slice (some a) l c := by simpa using hcs
    have hC : Try.prog.cellsOf 37 = 3 := by kernel_rfl
    have hat : ∀ i, i < l → ∃ b : Sp, ∀ j, j < 3 → w.cell? (a.add (i * 3 + j)) = b.cells[j]? := by
      intro i hil
      obtain ⟨cs', y, hc, ht', _⟩ := hi i hil
      rw [hC] at hc
      obtain ⟨_, hcl, hcat⟩ := World.cells?_some hc
      obtain ⟨b, rfl⟩ := stp_in ht' hcl
      refine ⟨b, fun j hj => ?_⟩
      have g := hcat j hj
      rw [Go.Deep.add_add] at g
      rw [g, Array.getElem?_toList]
    obtain ⟨f, hf'⟩ : ∃ f : Nat → Sp, ∀ i, i < l → ∀ j, j < 3 → w.cell? (a.add (i * 3 + j)) = (f i).cells[j]? := by
      refine ⟨fun i => if h : i < l then Classical.choose (hat i h) else sp0, fun i hi' => ?_⟩
      simp only [dif_pos hi']
      exact Classical.choose_spec (hat i hi')
    refine ⟨_, l, c, (List.range l).map f, rfl, by simp, hl, hm, fun k hk => ?_⟩
    simp at hk
    have g := hf' k hk
    obtain ⟨b, off, rfl⟩ := spot_none (k := 0) ((hf' 0 (by omega) 0 (by omega)).trans rfl)
    have e : ((List.range l).map f).getD k sp0 = f k := by simp [List.getD, List.getElem?_map, List.getElem?_range hk]
    have g0 := g 0 (by omega); have g1 := g 1 (by omega); have g2 := g 2 (by omega)
    rw [add_none] at g0 g1 g2
    have hb := cell_block_lt (g0.trans rfl)
    rw [e]
    exact ⟨b, off, rfl, hb, g0, g1, g2⟩
theorem sps_of {H : Type} {enc : TypeId × Value → H} {w : World} {d : DataW H} {p : List MemPlace} {A : Option Addr} {len cap : Nat}
    (h : DataW.Trod enc Try.prog w 0 (fun _ => true) true 22 (.slice A len cap) d p) : ∃ l : List Sp, l.length = len ∧ len ≤ cap ∧ cap ≤ maxLen ∧ SpR w A l := by
  obtain ⟨fuel, hf⟩ := h
  obtain ⟨A', n, c, l, hv, h1, h2, h3, h4⟩ := sps_in (v := .slice A len cap) hf
  injection hv with e1 e2 e3
  subst e1 e2 e3
  exact ⟨l, h1, h2, h3, h4⟩
end Go.Proofs.Ytcjceecdcjjnfaa.Ck
