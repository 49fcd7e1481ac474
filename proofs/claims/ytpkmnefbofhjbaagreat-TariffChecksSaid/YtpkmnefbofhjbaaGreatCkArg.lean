/- How ladders and expressions that come in read. -/
import Derived.Test.YtpkmnefbofhjbaaGreatCkV
import Derived.Test.YtpkmnefbofhjbaaGreatLawKit
import Derived.Deep.Slices
import Derived.Deep.Fields
import Derived.ChangeSame
import Derived.Lib.SmallJoins
import Derived.SizedLaws
namespace Go.Proofs.YtpkmnefbofhjbaaGreat.Ck
open Go.ChangeShapes Go.WideShapes Go.ChangeAt Go.RowKit Go.Deep Go.Lib

/-- Every weight of a datum is within reach. -/
def WL {H : Type} (t : TypeId) (d : DataW H) : Prop := ∀ x ∈ d.weights Tryz.prog t, x ≤ reachBytes
theorem WL.top {H : Type} {ts : List TypeId} {ds : List (DataW H)} (h : (DataW.weightsEach Tryz.prog ts ds).all (· ≤ reachBytes) = true) {j : Nat} {t : TypeId} {d : DataW H} (ht : ts[j]? = some t) (hd : ds[j]? = some d) : WL t d := fun x hx => by
  have := List.all_eq_true.1 h x (DataW.weights_mem_each ht hd x hx)
  simpa using this
theorem weights_all {H : Type} {e : TypeId} {x : Nat} : ∀ {l : List (DataW H)} {d : DataW H}, d ∈ l → x ∈ d.weights Tryz.prog e → x ∈ DataW.weightsAll Tryz.prog e l := by
  intro l
  induction l with
  | nil => intro d h; cases h
  | cons y l ih =>
    intro d h hx
    rw [DataW.weightsAll, List.mem_append]
    rcases List.mem_cons.1 h with rfl | h
    · exact .inl hx
    · exact .inr (ih h hx)
theorem WL.elem {H : Type} {t e : TypeId} {elems spare : List (DataW H)} (ht : Tryz.prog.underlying t = some (.slice e)) (h : WL t (.slice elems spare)) {d : DataW H} (hd : d ∈ elems) : WL e d := fun x hx => by
  refine h x ?_
  rw [DataW.weights, ht]
  exact List.mem_cons_of_mem _ (List.mem_append.2 (.inl (weights_all hd hx)))
theorem WL.size {H : Type} {t e : TypeId} {elems spare : List (DataW H)} (ht : Tryz.prog.underlying t = some (.slice e)) (h : WL t (.slice elems spare)) : (elems.length + spare.length) * Tryz.prog.bytesOf e ≤ reachBytes := by
  refine h _ ?_
  rw [DataW.weights, ht]
  exact List.mem_cons_self ..
theorem WL.part {H : Type} {t : TypeId} {fs : Array Field} {parts : List (DataW H)} (ht : Tryz.prog.underlying t = some (.struct fs)) (h : WL t (.agg parts)) {j : Nat} {u : TypeId} {d : DataW H} (hu : (fs.toList.map (·.type))[j]? = some u) (hd : parts[j]? = some d) : WL u d := fun x hx => by
  refine h x ?_
  rw [DataW.weights, ht]
  exact DataW.weights_mem_each hu hd x hx
theorem spot_none {w : World} {a : Addr} {k : Nat} {v : Value} (h : w.cell? (a.add (0 * k)) = some v) : ∃ b off, a = ⟨b, off, none⟩ := by
  obtain ⟨b, off, spot⟩ := a
  have hs : spot = none := by
    have h2 := World.cell?_spot h
    simpa [Addr.add] using h2
  subst hs
  exact ⟨b, off, rfl⟩
theorem int_inV {H : Type} {enc : TypeId × Value → H} {w : World} {base : Nat} {spare : Nat → Bool} {held : Bool} {n : Nat} {v : Value} {x : DataW H × List MemPlace} (h : DataW.trod enc Tryz.prog w base spare held n 3 [v] = some x) :
    ∃ z : Int, v = .int .i64 z := by
  obtain ⟨z, hc, _, hw⟩ := DataW.trod_int Tryz.underlying3 h
  exact ⟨z, by simpa using hc⟩
theorem str_inV {H : Type} {enc : TypeId × Value → H} {w : World} {base : Nat} {spare : Nat → Bool} {held : Bool} {n : Nat} {v : Value} {x : DataW H × List MemPlace} (h : DataW.trod enc Tryz.prog w base spare held n 9 [v] = some x) :
    ∃ z : ByteArray, v = .string z ∧ z.size ≤ maxLen := by
  obtain ⟨z, hc, _, hw⟩ := DataW.trod_string (cs := [v]) Tryz.underlying9 h
  exact ⟨z, by simpa using hc, hw⟩
theorem bool_inV {H : Type} {enc : TypeId × Value → H} {w : World} {base : Nat} {spare : Nat → Bool} {held : Bool} {n : Nat} {v : Value} {x : DataW H × List MemPlace} (h : DataW.trod enc Tryz.prog w base spare held n 4 [v] = some x) :
    ∃ z : Bool, v = .bool z := by
  obtain ⟨z, hc, _⟩ := DataW.trod_bool Tryz.underlying4 h
  exact ⟨z, by simpa using hc⟩
theorem list3 {α : Type} {cs : List α} (h : cs.length = 3) : ∃ c0 c1 c2, cs = [c0, c1, c2] := by
  match cs, h with
  | [c0, c1, c2], _ => exact ⟨c0, c1, c2, rfl⟩
theorem list4 {α : Type} {cs : List α} (h : cs.length = 4) : ∃ c0 c1 c2 c3, cs = [c0, c1, c2, c3] := by
  match cs, h with
  | [c0, c1, c2, c3], _ => exact ⟨c0, c1, c2, c3, rfl⟩
/-- A slice that comes in, element by element. -/
theorem open_sl {H : Type} {enc : TypeId × Value → H} {w : World} {base : Nat} {spare : Nat → Bool} {held : Bool} {t e : TypeId} {fuel : Nat} {cs : List Value} {x : DataW H × List MemPlace} (ht : Tryz.prog.underlying t = some (.slice e)) (h : DataW.trod enc Tryz.prog w base spare held fuel t cs = some x) :
    cs = [.slice none 0 0] ∨ ∃ (a : Addr) (len cap n : Nat) (elems sp : List (DataW H)), fuel = n + 1 ∧ cs = [.slice (some a) len cap] ∧ len ≤ cap ∧ cap ≤ maxLen ∧ x.1 = .slice elems sp ∧ elems.length = len ∧
      ∀ i, i < len → ∃ cs' y, w.cells? base (a.add (i * Tryz.prog.cellsOf e)) (Tryz.prog.cellsOf e) = some cs' ∧ DataW.trod enc Tryz.prog w base spare held n e cs' = some y ∧ y.1 ∈ elems := by
  rcases DataW.trod_slice ht h with h0 | ⟨a, len, cap, elems, rest, n, hf, h1, h2, hb, hl, hm, hlen, hel, _⟩
  · exact .inl h0.1
  · refine .inr ⟨a, len, cap, n, elems.map (·.1), rest.map (·.1), hf, h1, hl, hm, by rw [h2], by rw [List.length_map, hlen], fun i hi => ?_⟩
    have key := hel i hi
    rw [List.getElem?_eq_getElem (by omega)] at key
    obtain ⟨cs', k1, k2⟩ := Option.bind_eq_some_iff.1 key
    exact ⟨cs', _, k1, k2, List.mem_map.2 ⟨_, List.getElem_mem _, rfl⟩⟩
theorem spot0 {w : World} {a : Addr} {v : Value} (h : w.cell? a = some v) : ∃ b off, a = ⟨b, off, none⟩ := by
  obtain ⟨b, off, spot⟩ := a
  have hs : spot = none := World.cell?_spot h
  subst hs
  exact ⟨b, off, rfl⟩
set_option maxRecDepth 100000 in
theorem stp_in {H : Type} {enc : TypeId × Value → H} {w : World} {base : Nat} {spare : Nat → Bool} {held : Bool} {fuel : Nat} {cs : List Value} {x : DataW H × List MemPlace}
    (h : DataW.trod enc Tryz.prog w base spare held fuel 102 cs = some x) (hl : cs.length = 3) : ∃ s : Sp, cs = s.cells.toList := by
  have he : Tryz.prog.underlying 102 = some (.struct (Tryz.prog.fieldsOf 102)) := by kernel_rfl
  obtain ⟨c0, c1, c2, rfl⟩ := list3 hl
  obtain ⟨ys, n', hn', hy, hlen, hyl, hfl⟩ := DataW.trod_struct he h
  have h0 := hfl 0 _ rfl
  rw [List.getElem?_eq_getElem (show 0 < ys.length by rw [hyl]; decide)] at h0
  have h1 := hfl 1 _ rfl
  rw [List.getElem?_eq_getElem (show 1 < ys.length by rw [hyl]; decide)] at h1
  have h2 := hfl 2 _ rfl
  rw [List.getElem?_eq_getElem (show 2 < ys.length by rw [hyl]; decide)] at h2
  obtain ⟨u0, rfl⟩ := int_inV (v := c0) h0
  obtain ⟨u1, rfl⟩ := int_inV (v := c1) h1
  obtain ⟨u2, rfl⟩ := int_inV (v := c2) h2
  exact ⟨⟨u0, u1, u2⟩, rfl⟩
set_option maxRecDepth 100000 in
theorem sps_in {H : Type} {enc : TypeId × Value → H} {w : World} {base : Nat} {spare : Nat → Bool} {held : Bool} {fuel : Nat} {v : Value} {x : DataW H × List MemPlace}
    (h : DataW.trod enc Tryz.prog w base spare held fuel 61 [v] = some x) : ∃ A n c l, v = .slice A n c ∧ l.length = n ∧ n ≤ c ∧ c ≤ maxLen ∧ SpR w A l := by
  rcases open_sl Tryz.underlying61 h with hcs | ⟨a, l, c, n, E, S, _, hcs, hl, hm, _, _, hi⟩
  · obtain rfl : v = .slice none 0 0 := by simpa using hcs
    exact ⟨none, 0, 0, [], rfl, rfl, Nat.le_refl _, by decide, SpR.nil _ _⟩
  · obtain rfl : v = .slice (some a) l c := by simpa using hcs
    have hC : Tryz.prog.cellsOf 102 = 3 := by kernel_rfl
    have hat : ∀ i, i < l → ∃ b : Sp, ∀ j, j < 3 → w.cell? (a.add (i * 3 + j)) = b.cells[j]? := by
      intro i hil
      obtain ⟨cs', y, hc, ht', _⟩ := hi i hil
      rw [hC] at hc
      obtain ⟨_, hcl, hcat⟩ := World.cells?_some hc
      obtain ⟨b, rfl⟩ := stp_in ht' hcl
      refine ⟨b, fun j hj => ?_⟩
      have g := hcat j hj
      rw [Go.Deep.add_add] at g
      rw [g, Array.getElem?_toList]
    obtain ⟨f, hf'⟩ : ∃ f : Nat → Sp, ∀ i, i < l → ∀ j, j < 3 → w.cell? (a.add (i * 3 + j)) = (f i).cells[j]? := by
      refine ⟨fun i => if h : i < l then Classical.choose (hat i h) else sp0, fun i hi' => ?_⟩
      simp only [dif_pos hi']
      exact Classical.choose_spec (hat i hi')
    refine ⟨_, l, c, (List.range l).map f, rfl, by simp, hl, hm, fun k hk => ?_⟩
    simp at hk
    have g := hf' k hk
    obtain ⟨b, off, rfl⟩ := spot_none (k := 0) ((hf' 0 (by omega) 0 (by omega)).trans rfl)
    have e : ((List.range l).map f).getD k sp0 = f k := by simp [List.getD, List.getElem?_map, List.getElem?_range hk]
    have g0 := g 0 (by omega); have g1 := g 1 (by omega); have g2 := g 2 (by omega)
    rw [add_none] at g0 g1 g2
    have hb := cell_block_lt (g0.trans rfl)
    rw [e]
    exact ⟨b, off, rfl, hb, g0, g1, g2⟩
set_option maxRecDepth 100000 in
/-- An expression that comes in. -/
theorem exp_in {H : Type} {enc : TypeId × Value → H} {w : World} {base : Nat} {spare : Nat → Bool} {held : Bool} : ∀ (fuel : Nat) {cs : List Value} {x : DataW H × List MemPlace},
    DataW.trod enc Tryz.prog w base spare held fuel 67 cs = some x → cs.length = 4 → ∃ (op num : Int) (tx : ByteArray) (us : List Ex) (A : Option Addr) (n c : Nat), cs = [.int .i64 op, .int .i64 num, .string tx, .slice A n c] ∧ us.length = n ∧ n ≤ c ∧ c ≤ maxLen ∧ tx.size ≤ maxLen ∧ XA w fuel A us := by
  intro fuel
  induction fuel using Nat.strongRecOn with
  | _ fuel ih =>
    intro cs x h hl
    have he : Tryz.prog.underlying 67 = some (.struct (Tryz.prog.fieldsOf 67)) := by kernel_rfl
    obtain ⟨c0, c1, c2, c3, rfl⟩ := list4 hl
    obtain ⟨ys, n', hn', hy, hlen, hyl, hfl⟩ := DataW.trod_struct he h
    have h0 := hfl 0 _ rfl
    rw [List.getElem?_eq_getElem (show 0 < ys.length by rw [hyl]; decide)] at h0
    have h1 := hfl 1 _ rfl
    rw [List.getElem?_eq_getElem (show 1 < ys.length by rw [hyl]; decide)] at h1
    have h2 := hfl 2 _ rfl
    rw [List.getElem?_eq_getElem (show 2 < ys.length by rw [hyl]; decide)] at h2
    have h3 := hfl 3 _ rfl
    rw [List.getElem?_eq_getElem (show 3 < ys.length by rw [hyl]; decide)] at h3
    obtain ⟨u0, rfl⟩ := int_inV (v := c0) h0
    obtain ⟨u1, rfl⟩ := int_inV (v := c1) h1
    obtain ⟨u2, rfl, s2⟩ := str_inV (v := c2) h2
    have h3' : DataW.trod enc Tryz.prog w base spare held n' 65 [c3] = some _ := h3
    rcases open_sl Tryz.underlying65 h3' with hcs | ⟨a, l, c, n, E, S, hn, hcs, hll, hm, _, _, hi⟩
    · obtain rfl : c3 = .slice none 0 0 := by simpa using hcs
      exact ⟨u0, u1, u2, [], none, 0, 0, rfl, rfl, Nat.le_refl _, by decide, s2, XA.nil _ _ _⟩
    · obtain rfl : c3 = .slice (some a) l c := by simpa using hcs
      have hC : Tryz.prog.cellsOf 67 = 4 := by kernel_rfl
      have hat : ∀ i, i < l → ∃ e : Ex, ∃ (o m : Int) (t : ByteArray) (us : List Ex) (A' : Option Addr) (c' : Nat), e = .mk o m t us ∧ (∀ j, j < 4 → w.cell? (a.add (i * 4 + j)) = #[Value.int .i64 o, .int .i64 m, .string t, .slice A' us.length c'][j]?) ∧ us.length ≤ c' ∧ c' ≤ maxLen ∧ t.size ≤ maxLen ∧ XA w n A' us := by
        intro i hil
        obtain ⟨cs', y, hc, ht', _⟩ := hi i hil
        rw [hC] at hc
        obtain ⟨_, hcl, hcat⟩ := World.cells?_some hc
        obtain ⟨o, m, t, us, A', n2, c', rfl, k1, k2, k3, k4, k5⟩ := ih n (by omega) ht' hcl
        subst k1
        refine ⟨_, o, m, t, us, A', c', rfl, fun j hj => ?_, k2, k3, k4, k5⟩
        have g := hcat j hj
        rw [Go.Deep.add_add] at g
        rw [g]
        match j, hj with
        | 0, _ => rfl
        | 1, _ => rfl
        | 2, _ => rfl
        | 3, _ => rfl
      obtain ⟨f, hf'⟩ : ∃ f : Nat → Ex, ∀ i, i < l → ∃ (o m : Int) (t : ByteArray) (us : List Ex) (A' : Option Addr) (c' : Nat), f i = .mk o m t us ∧ (∀ j, j < 4 → w.cell? (a.add (i * 4 + j)) = #[Value.int .i64 o, .int .i64 m, .string t, .slice A' us.length c'][j]?) ∧ us.length ≤ c' ∧ c' ≤ maxLen ∧ t.size ≤ maxLen ∧ XA w n A' us := by
        refine ⟨fun i => if h : i < l then Classical.choose (hat i h) else .mk 0 0 ⟨#[]⟩ [], fun i hi' => ?_⟩
        simp only [dif_pos hi']
        exact Classical.choose_spec (hat i hi')
      have hX : XA w (n + 1) (some a) ((List.range l).map f) := by
        intro k hk
        simp at hk
        obtain ⟨o, m, t, us, A', c', e1, g, k2, k3, k4, k5⟩ := hf' k hk
        obtain ⟨_, _, _, _, _, _, _, gz, _⟩ := hf' 0 (by omega)
        obtain ⟨b, off, rfl⟩ := spot_none (k := 0) ((gz 0 (by omega)).trans rfl)
        have g0 := g 0 (by omega); have g1 := g 1 (by omega); have g2 := g 2 (by omega); have g3 := g 3 (by omega)
        rw [add_none] at g0 g1 g2 g3
        have hb := cell_block_lt (g0.trans rfl)
        exact ⟨b, off, o, m, t, us, A', c', rfl, hb, by rw [List.getElem?_map, List.getElem?_range hk, Option.map_some, e1], g0, g1, g2, g3, k2, k3, k4, k5⟩
      exact ⟨u0, u1, u2, (List.range l).map f, _, l, c, rfl, by simp, hll, hm, s2, hX.mono (by omega)⟩
theorem sps_of {H : Type} {enc : TypeId × Value → H} {w : World} {d : DataW H} {p : List MemPlace} {A : Option Addr} {len cap : Nat}
    (h : DataW.Trod enc Tryz.prog w 0 (fun _ => true) true 61 (.slice A len cap) d p) : ∃ l : List Sp, l.length = len ∧ len ≤ cap ∧ cap ≤ maxLen ∧ SpR w A l := by
  obtain ⟨fuel, hf⟩ := h
  obtain ⟨A', n, c, l, hv, h1, h2, h3, h4⟩ := sps_in (v := .slice A len cap) hf
  injection hv with e1 e2 e3
  subst e1 e2 e3
  exact ⟨l, h1, h2, h3, h4⟩
set_option maxRecDepth 100000 in
theorem exp_of {H : Type} {enc : TypeId × Value → H} {w : World} {base : Nat} {spare : Nat → Bool} {held : Bool} {r : Reach} {b0 : Nat} {v : Value} {d : DataW H} {p : List MemPlace}
    (hv : Value.okWide Tryz.prog w r b0 67 v) (h : DataW.Trod enc Tryz.prog w base spare held 67 v d p) : ∃ (op num : Int) (tx : ByteArray) (us : List Ex) (A : Option Addr) (n c k : Nat), v = .agg #[.int .i64 op, .int .i64 num, .string tx, .slice A n c] ∧ XA w k A us ∧ us.length = n ∧ n ≤ c ∧ c ≤ maxLen ∧ tx.size ≤ maxLen := by
  have he : Tryz.prog.underlying 67 = some (.struct (Tryz.prog.fieldsOf 67)) := by kernel_rfl
  have hC : Tryz.prog.cellsOf 67 = 4 := by kernel_rfl
  obtain ⟨cs, rfl, hsz⟩ := okWide_struct he hv
  obtain ⟨fuel, hf⟩ := h
  obtain ⟨op, num, tx, us, A, n, c, hcs, h1, h2, h3, h4, h5⟩ := exp_in fuel (cs := cs.toList) hf (by rw [Array.length_toList, hsz, hC])
  refine ⟨op, num, tx, us, A, n, c, fuel, ?_, h5, h1, h2, h3, h4⟩
  congr 1
  exact Array.toList_inj.1 hcs
end Go.Proofs.YtpkmnefbofhjbaaGreat.Ck
