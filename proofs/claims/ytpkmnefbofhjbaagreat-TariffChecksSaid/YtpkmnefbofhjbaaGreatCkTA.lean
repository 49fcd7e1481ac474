/- How periods and slices of periods that come in read. How lists of bands that come in read. How lists of zones that come in read. How a tariff that comes in reads. -/
import Derived.Test.YtpkmnefbofhjbaaGreatLawKit
import Derived.Test.YtpkmnefbofhjbaaGreatIvV
import Derived.Deep.Slices
import Derived.Deep.Fields
import Derived.ChangeSame
import Derived.Lib.SmallJoins
import Derived.Test.YtpkmnefbofhjbaaGreatBdV
import Derived.SizedLaws
import Derived.Test.YtpkmnefbofhjbaaGreatZnV
import Derived.Test.YtpkmnefbofhjbaaGreatCkSm
import Derived.Test.YtpkmnefbofhjbaaGreatCkArg
namespace Go.Proofs.YtpkmnefbofhjbaaGreat
open Go.ChangeShapes Go.WideShapes Go.ChangeAt Go.RowKit Go.Deep

theorem int_in {H : Type} {enc : TypeId × Value → H} {w : World} {base : Nat} {spare : Nat → Bool} {held : Bool} {n : Nat} {v : Value} {x : DataW H × List MemPlace} (h : DataW.trod enc Tryz.prog w base spare held n 3 [v] = some x) :
    ∃ z : Int, v = .int .i64 z ∧ (Lit.int .i64 z).wf = true := by
  obtain ⟨z, hc, _, hw⟩ := DataW.trod_int Tryz.underlying3 h
  exact ⟨z, by simpa using hc, hw⟩
set_option maxRecDepth 100000 in
theorem open_period {H : Type} {enc : TypeId × Value → H} {w : World} {base : Nat} {spare : Nat → Bool} {held : Bool} {r : Reach} {b0 : Nat} {v : Value} {d : DataW H} {p : List MemPlace}
    (hv : Value.okWide Tryz.prog w r b0 44 v) (h : DataW.Trod enc Tryz.prog w base spare held 44 v d p) : ∃ x y : Int, v = .agg #[.int .i64 x, .int .i64 y] ∧ (Lit.int .i64 x).wf = true ∧ (Lit.int .i64 y).wf = true := by
  obtain ⟨v0, v1, y0, y1, n, rfl, _, _, h0, h1⟩ := Go.Joins.open_agg2 Tryz.underlying44 (by kernel_rfl) (by kernel_rfl) hv h
  obtain ⟨a, rfl, ha⟩ := int_in h0
  obtain ⟨b, rfl, hb⟩ := int_in h1
  exact ⟨a, b, rfl, ha, hb⟩

/-- A slice of integers that came in. -/
theorem ir_row {w : World} {A : Option Addr} {len cap : Nat} {zs : List Int} (h : IsRow .i64 w A len cap zs) : ∃ l : List Int, l.length = len ∧ len ≤ cap ∧ IR w A l := by
  rcases h with ⟨rfl, rfl, rfl, rfl⟩ | ⟨x, rfl, hl, hm, hz, hc, _⟩
  · exact ⟨[], rfl, Nat.le_refl _, IR.nil⟩
  · refine ⟨zs.take len, by rw [List.length_take]; omega, hl, fun k hk => ?_⟩
    rw [List.length_take] at hk
    obtain ⟨b, off, rfl, hb, hcc⟩ := row_cells (f := fun i => .int .i64 (zs.getD i 0)) hc (by omega)
    refine ⟨b, off, rfl, hb, ?_⟩
    rw [hcc k (by omega)]
    simp [List.getD, List.getElem?_take, show k < len by omega]
end Go.Proofs.YtpkmnefbofhjbaaGreat
namespace Go.Proofs.YtpkmnefbofhjbaaGreat
open Go.ChangeShapes Go.WideShapes Go.ChangeAt Go.RowKit Go.Deep

/-- Every weight of a datum is within reach. -/
def WL {H : Type} (t : TypeId) (d : DataW H) : Prop := ∀ x ∈ d.weights Tryz.prog t, x ≤ reachBytes
theorem WL.top {H : Type} {ts : List TypeId} {ds : List (DataW H)} (h : (DataW.weightsEach Tryz.prog ts ds).all (· ≤ reachBytes) = true) {j : Nat} {t : TypeId} {d : DataW H} (ht : ts[j]? = some t) (hd : ds[j]? = some d) : WL t d := fun x hx => by
  have := List.all_eq_true.1 h x (DataW.weights_mem_each ht hd x hx)
  simpa using this
theorem weights_all {H : Type} {e : TypeId} {x : Nat} : ∀ {l : List (DataW H)} {d : DataW H}, d ∈ l → x ∈ d.weights Tryz.prog e → x ∈ DataW.weightsAll Tryz.prog e l := by
  intro l
  induction l with
  | nil => intro d h; cases h
  | cons y l ih =>
    intro d h hx
    rw [DataW.weightsAll, List.mem_append]
    rcases List.mem_cons.1 h with rfl | h
    · exact .inl hx
    · exact .inr (ih h hx)
theorem WL.elem {H : Type} {t e : TypeId} {elems spare : List (DataW H)} (ht : Tryz.prog.underlying t = some (.slice e)) (h : WL t (.slice elems spare)) {d : DataW H} (hd : d ∈ elems) : WL e d := fun x hx => by
  refine h x ?_
  rw [DataW.weights, ht]
  exact List.mem_cons_of_mem _ (List.mem_append.2 (.inl (weights_all hd hx)))
theorem WL.size {H : Type} {t e : TypeId} {elems spare : List (DataW H)} (ht : Tryz.prog.underlying t = some (.slice e)) (h : WL t (.slice elems spare)) : (elems.length + spare.length) * Tryz.prog.bytesOf e ≤ reachBytes := by
  refine h _ ?_
  rw [DataW.weights, ht]
  exact List.mem_cons_self ..
theorem WL.part {H : Type} {t : TypeId} {fs : Array Field} {parts : List (DataW H)} (ht : Tryz.prog.underlying t = some (.struct fs)) (h : WL t (.agg parts)) {j : Nat} {u : TypeId} {d : DataW H} (hu : (fs.toList.map (·.type))[j]? = some u) (hd : parts[j]? = some d) : WL u d := fun x hx => by
  refine h x ?_
  rw [DataW.weights, ht]
  exact DataW.weights_mem_each hu hd x hx
theorem spot_none {w : World} {a : Addr} {k : Nat} {v : Value} (h : w.cell? (a.add (0 * k)) = some v) : ∃ b off, a = ⟨b, off, none⟩ := by
  obtain ⟨b, off, spot⟩ := a
  have hs : spot = none := by
    have h2 := World.cell?_spot h
    simpa [Addr.add] using h2
  subst hs
  exact ⟨b, off, rfl⟩
set_option maxRecDepth 100000 in
theorem sls_in {H : Type} {enc : TypeId × Value → H} {w : World} {base : Nat} {held : Bool} {fuel : Nat} {v : Value} {x : DataW H × List MemPlace}
    (h : DataW.trod enc Tryz.prog w base (fun _ => true) held fuel 58 [v] = some x) (hw : WL 58 x.1) : ∃ A n c ss, v = .slice A n c ∧ n ≤ c ∧ c ≤ maxLen ∧ ss.length = n ∧ SlR w A ss ∧ n ≤ 6000000000000 := by
  have he : Tryz.prog.underlying 97 = some (.struct (Tryz.prog.fieldsOf 97)) := by kernel_rfl
  rcases open_slice Tryz.underlying58 h with ⟨hcs, _⟩ | ⟨a, l, c, m, n, D, Pl, hcs, _, hl, hm, hmm, hx, hi⟩
  · obtain rfl : v = .slice none 0 0 := by simpa using hcs
    exact ⟨none, 0, 0, [], rfl, Nat.le_refl _, by decide, rfl, SlR.nil, by omega⟩
  · obtain rfl : v = .slice (some a) l c := by simpa using hcs
    simp at hmm
    subst hmm
    have hbytes : l ≤ 6000000000000 := by
      rw [hx] at hw
      have h1 := WL.size Tryz.underlying58 hw
      rw [show Tryz.prog.bytesOf 97 = 24 from by kernel_rfl] at h1
      simp only [List.length_map, List.length_range, reachBytes] at h1
      omega
    have hC : Tryz.prog.cellsOf 97 = 3 := by kernel_rfl
    have hat : ∀ i, i < m → ∃ s : Sl, w.cell? (a.add (i * 3)) = some (.int .i64 s.1) ∧ w.cell? (a.add (i * 3 + 1)) = some (.int .i64 s.2.1) ∧ w.cell? (a.add (i * 3 + 2)) = some (.int .i64 s.2.2) := by
      intro i him
      obtain ⟨cs', hc, ht'⟩ := hi i him
      rw [hC] at hc
      obtain ⟨ys, n', hn', hy, hlen, hyl, hfl⟩ := DataW.trod_struct he ht'
      obtain ⟨_, hcl, hcat⟩ := World.cells?_some hc
      obtain ⟨c0, c1, c2, rfl⟩ : ∃ c0 c1 c2, cs' = [c0, c1, c2] := by
        match cs', hcl with
        | [c0, c1, c2], _ => exact ⟨c0, c1, c2, rfl⟩
      have h0 := hfl 0 _ rfl
      have h1 := hfl 1 _ rfl
      have h2 := hfl 2 _ rfl
      have e0 : ys[0]? = some (ys[0]'(by rw [hyl]; decide)) := List.getElem?_eq_getElem _
      have e1 : ys[1]? = some (ys[1]'(by rw [hyl]; decide)) := List.getElem?_eq_getElem _
      have e2 : ys[2]? = some (ys[2]'(by rw [hyl]; decide)) := List.getElem?_eq_getElem _
      rw [e0] at h0
      rw [e1] at h1
      rw [e2] at h2
      obtain ⟨u0, hu0, _⟩ := int_in (v := c0) h0
      obtain ⟨u1, hu1, _⟩ := int_in (v := c1) h1
      obtain ⟨u2, hu2, _⟩ := int_in (v := c2) h2
      subst hu0 hu1 hu2
      have g0 := hcat 0 (by decide)
      have g1 := hcat 1 (by decide)
      have g2 := hcat 2 (by decide)
      rw [Go.Deep.add_add] at g0 g1 g2
      exact ⟨(u0, u1, u2), by simpa using g0, by simpa using g1, by simpa using g2⟩
    obtain ⟨f, hf'⟩ : ∃ f : Nat → Sl, ∀ i, i < m → w.cell? (a.add (i * 3)) = some (.int .i64 (f i).1) ∧ w.cell? (a.add (i * 3 + 1)) = some (.int .i64 (f i).2.1) ∧ w.cell? (a.add (i * 3 + 2)) = some (.int .i64 (f i).2.2) := by
      refine ⟨fun i => if h : i < m then Classical.choose (hat i h) else sl0, fun i hi' => ?_⟩
      simp only [dif_pos hi']
      exact Classical.choose_spec (hat i hi')
    refine ⟨_, l, m, (List.range l).map f, rfl, hl, hm, by simp, fun k hk => ?_, hbytes⟩
    simp at hk
    obtain ⟨g0, g1, g2⟩ := hf' k (by omega)
    obtain ⟨b, off, rfl⟩ := spot_none (hf' 0 (by omega)).1
    rw [add_none] at g0 g1 g2
    have hb := cell_block_lt g0
    refine ⟨b, off, rfl, hb, ?_, ?_, ?_⟩
    · rw [g0]; simp [List.getD, List.getElem?_map, List.getElem?_range hk]
    · rw [show off + k * 3 + 1 = off + (k * 3 + 1) by omega, g1]; simp [List.getD, List.getElem?_map, List.getElem?_range hk]
    · rw [show off + k * 3 + 2 = off + (k * 3 + 2) by omega, g2]; simp [List.getD, List.getElem?_map, List.getElem?_range hk]

set_option maxRecDepth 100000 in
theorem bds_in {H : Type} {enc : TypeId × Value → H} {w : World} {base : Nat} {held : Bool} {fuel : Nat} {v : Value} {x : DataW H × List MemPlace}
    (h : DataW.trod enc Tryz.prog w base (fun _ => true) held fuel 28 [v] = some x) (hw : WL 28 x.1) : ∃ A len cap l, v = .slice A len cap ∧ len ≤ cap ∧ cap ≤ maxLen ∧ l.length = len ∧ BdR w A l ∧ ∀ b ∈ l, b.2.length ≤ 6000000000000 := by
  have he : Tryz.prog.underlying 60 = some (.struct (Tryz.prog.fieldsOf 60)) := by kernel_rfl
  rcases open_slice Tryz.underlying28 h with ⟨hcs, _⟩ | ⟨a, l, c, m, n, D, Pl, hcs, _, hl, hm, hmm, hx, hi⟩
  · obtain rfl : v = .slice none 0 0 := by simpa using hcs
    exact ⟨none, 0, 0, [], rfl, Nat.le_refl _, by decide, rfl, BdR.nil, fun b hb => by cases hb⟩
  · obtain rfl : v = .slice (some a) l c := by simpa using hcs
    simp at hmm
    subst hmm
    rw [hx] at hw
    have hC : Tryz.prog.cellsOf 60 = 2 := by kernel_rfl
    have hat : ∀ i, i < l → ∃ (d : Bd) (S : Option Addr) (cc : Nat), w.cell? (a.add (i * 2)) = some (.string d.1) ∧ w.cell? (a.add (i * 2 + 1)) = some (.slice S d.2.length cc) ∧ d.2.length ≤ cc ∧ cc ≤ maxLen ∧ SlR w S d.2 ∧ d.1.size ≤ maxLen ∧ d.2.length ≤ 6000000000000 := by
      intro i hil
      have him : i < m := by omega
      obtain ⟨cs', hc, ht'⟩ := hi i him
      rw [hC] at hc
      have hwi : WL 60 (D i) := WL.elem Tryz.underlying28 hw (List.mem_map.2 ⟨i, List.mem_range.2 hil, rfl⟩)
      obtain ⟨ys, n', hn', hy, hlen, hyl, hfl⟩ := DataW.trod_struct he ht'
      obtain ⟨_, hcl, hcat⟩ := World.cells?_some hc
      obtain ⟨c0, c1, rfl⟩ : ∃ c0 c1, cs' = [c0, c1] := by
        match cs', hcl with
        | [c0, c1], _ => exact ⟨c0, c1, rfl⟩
      have h0 := hfl 0 _ rfl
      have h1 := hfl 1 _ rfl
      have e0 : ys[0]? = some (ys[0]'(by rw [hyl]; decide)) := List.getElem?_eq_getElem _
      have e1 : ys[1]? = some (ys[1]'(by rw [hyl]; decide)) := List.getElem?_eq_getElem _
      rw [e0] at h0
      rw [e1] at h1
      obtain ⟨s, hs, _, hsz⟩ := DataW.trod_string (cs := [c0]) Tryz.underlying9 h0
      have hD : D i = .agg (ys.map (·.1)) := congrArg Prod.fst hy
      rw [hD] at hwi
      have hw1 : WL 58 (ys[1]'(by rw [hyl]; decide)).1 := WL.part he hwi (j := 1) rfl (by rw [List.getElem?_map, e1]; rfl)
      obtain ⟨S, nn, cc, ss, hv, k1, k2, k3, k4, k5⟩ := sls_in h1 hw1
      obtain rfl : c0 = .string s := by simpa using hs
      subst hv
      have g0 := hcat 0 (by decide)
      have g1 := hcat 1 (by decide)
      rw [Go.Deep.add_add] at g0 g1
      subst k3
      exact ⟨(s, ss), S, cc, by simpa using g0, by simpa using g1, k1, k2, k4, hsz, k5⟩
    obtain ⟨f, hf'⟩ : ∃ f : Nat → Bd, ∀ i, i < l → ∃ (S : Option Addr) (cc : Nat), w.cell? (a.add (i * 2)) = some (.string (f i).1) ∧ w.cell? (a.add (i * 2 + 1)) = some (.slice S (f i).2.length cc) ∧ (f i).2.length ≤ cc ∧ cc ≤ maxLen ∧ SlR w S (f i).2 ∧ (f i).1.size ≤ maxLen ∧ (f i).2.length ≤ 6000000000000 := by
      refine ⟨fun i => if h : i < l then Classical.choose (hat i h) else bd0, fun i hi' => ?_⟩
      simp only [dif_pos hi']
      exact Classical.choose_spec (hat i hi')
    refine ⟨_, l, m, (List.range l).map f, rfl, hl, hm, by simp, fun k hk => ?_, fun b hb => ?_⟩
    · simp at hk
      obtain ⟨S, cc, g0, g1, k1, k2, k4, k5, k6⟩ := hf' k hk
      obtain ⟨_, _, g9, _⟩ := hf' 0 (by omega)
      obtain ⟨b, off, rfl⟩ := spot_none g9
      rw [add_none] at g0 g1
      have hb := cell_block_lt g0
      have e : ((List.range l).map f).getD k bd0 = f k := by simp [List.getD, List.getElem?_map, List.getElem?_range hk]
      rw [e]
      exact ⟨b, off, S, cc, rfl, hb, g0, by rw [show off + k * 2 + 1 = off + (k * 2 + 1) by omega, g1], k1, k2, k4, k5⟩
    · obtain ⟨i, hi2, rfl⟩ := List.mem_map.1 hb
      obtain ⟨_, _, _, _, _, _, _, _, k6⟩ := hf' i (List.mem_range.1 hi2)
      exact k6
end Go.Proofs.YtpkmnefbofhjbaaGreat
namespace Go.Proofs.YtpkmnefbofhjbaaGreat.Zn
open Go.ChangeShapes Go.WideShapes Go.ChangeAt Go.RowKit Go.Deep Go.Lib

/-- Every weight of a datum is within reach. -/
def WL {H : Type} (t : TypeId) (d : DataW H) : Prop := ∀ x ∈ d.weights Tryz.prog t, x ≤ reachBytes
theorem WL.top {H : Type} {ts : List TypeId} {ds : List (DataW H)} (h : (DataW.weightsEach Tryz.prog ts ds).all (· ≤ reachBytes) = true) {j : Nat} {t : TypeId} {d : DataW H} (ht : ts[j]? = some t) (hd : ds[j]? = some d) : WL t d := fun x hx => by
  have := List.all_eq_true.1 h x (DataW.weights_mem_each ht hd x hx)
  simpa using this
theorem weights_all {H : Type} {e : TypeId} {x : Nat} : ∀ {l : List (DataW H)} {d : DataW H}, d ∈ l → x ∈ d.weights Tryz.prog e → x ∈ DataW.weightsAll Tryz.prog e l := by
  intro l
  induction l with
  | nil => intro d h; cases h
  | cons y l ih =>
    intro d h hx
    rw [DataW.weightsAll, List.mem_append]
    rcases List.mem_cons.1 h with rfl | h
    · exact .inl hx
    · exact .inr (ih h hx)
theorem WL.elem {H : Type} {t e : TypeId} {elems spare : List (DataW H)} (ht : Tryz.prog.underlying t = some (.slice e)) (h : WL t (.slice elems spare)) {d : DataW H} (hd : d ∈ elems) : WL e d := fun x hx => by
  refine h x ?_
  rw [DataW.weights, ht]
  exact List.mem_cons_of_mem _ (List.mem_append.2 (.inl (weights_all hd hx)))
theorem WL.size {H : Type} {t e : TypeId} {elems spare : List (DataW H)} (ht : Tryz.prog.underlying t = some (.slice e)) (h : WL t (.slice elems spare)) : (elems.length + spare.length) * Tryz.prog.bytesOf e ≤ reachBytes := by
  refine h _ ?_
  rw [DataW.weights, ht]
  exact List.mem_cons_self ..
theorem WL.part {H : Type} {t : TypeId} {fs : Array Field} {parts : List (DataW H)} (ht : Tryz.prog.underlying t = some (.struct fs)) (h : WL t (.agg parts)) {j : Nat} {u : TypeId} {d : DataW H} (hu : (fs.toList.map (·.type))[j]? = some u) (hd : parts[j]? = some d) : WL u d := fun x hx => by
  refine h x ?_
  rw [DataW.weights, ht]
  exact DataW.weights_mem_each hu hd x hx
theorem spot_none {w : World} {a : Addr} {k : Nat} {v : Value} (h : w.cell? (a.add (0 * k)) = some v) : ∃ b off, a = ⟨b, off, none⟩ := by
  obtain ⟨b, off, spot⟩ := a
  have hs : spot = none := by
    have h2 := World.cell?_spot h
    simpa [Addr.add] using h2
  subst hs
  exact ⟨b, off, rfl⟩
theorem str_inV {H : Type} {enc : TypeId × Value → H} {w : World} {base : Nat} {spare : Nat → Bool} {held : Bool} {n : Nat} {v : Value} {x : DataW H × List MemPlace} (h : DataW.trod enc Tryz.prog w base spare held n 9 [v] = some x) :
    ∃ z : ByteArray, v = .string z ∧ z.size ≤ maxLen := by
  obtain ⟨z, hc, _, hw⟩ := DataW.trod_string (cs := [v]) Tryz.underlying9 h
  exact ⟨z, by simpa using hc, hw⟩
theorem list2 {α : Type} {cs : List α} (h : cs.length = 2) : ∃ c0 c1, cs = [c0, c1] := by
  match cs, h with
  | [c0, c1], _ => exact ⟨c0, c1, rfl⟩
set_option maxRecDepth 100000 in
theorem ts_in {H : Type} {enc : TypeId × Value → H} {w : World} {base : Nat} {held : Bool} {fuel : Nat} {v : Value} {x : DataW H × List MemPlace}
    (h : DataW.trod enc Tryz.prog w base (fun _ => true) held fuel 55 [v] = some x) (hw : WL 55 x.1) : ∃ A n c zs, v = .slice A n c ∧ zs.length = n ∧ n ≤ c ∧ c ≤ maxLen ∧ TsR w A zs ∧ n ≤ 8796093021952 ∧ ∀ p ∈ zs, p.size ≤ maxLen := by
  rcases open_slice Tryz.underlying55 h with ⟨hcs, _⟩ | ⟨a, l, c, m, n, D, Pl, hcs, _, hl, hm, hmm, hx, hi⟩
  · obtain rfl : v = .slice none 0 0 := by simpa using hcs
    exact ⟨none, 0, 0, [], rfl, rfl, Nat.le_refl _, by decide, fun k hk => absurd hk (Nat.not_lt_zero k), by omega, fun p hp => by cases hp⟩
  · obtain rfl : v = .slice (some a) l c := by simpa using hcs
    simp at hmm
    subst hmm
    have hbytes : l ≤ 8796093021952 := by
      rw [hx] at hw
      have h1 := WL.size Tryz.underlying55 hw
      rw [show Tryz.prog.bytesOf 9 = 16 from by kernel_rfl] at h1
      simp only [List.length_map, List.length_range, reachBytes] at h1
      omega
    have hC : Tryz.prog.cellsOf 9 = 1 := by kernel_rfl
    have hat : ∀ i, i < m → ∃ s : ByteArray, w.cell? (a.add (i * 1)) = some (.string s) ∧ s.size ≤ maxLen := by
      intro i him
      obtain ⟨cs', hc, ht'⟩ := hi i him
      rw [hC] at hc
      obtain ⟨_, hcl, hcat⟩ := World.cells?_some hc
      obtain ⟨c0, rfl⟩ : ∃ c0, cs' = [c0] := by
        match cs', hcl with
        | [c0], _ => exact ⟨c0, rfl⟩
      obtain ⟨s, rfl, hs⟩ := str_inV (v := c0) ht'
      have g0 := hcat 0 (by decide)
      rw [Go.Deep.add_add] at g0
      exact ⟨s, by simpa using g0, hs⟩
    obtain ⟨f, hf'⟩ : ∃ f : Nat → ByteArray, ∀ i, i < m → w.cell? (a.add (i * 1)) = some (.string (f i)) ∧ (f i).size ≤ maxLen := by
      refine ⟨fun i => if h : i < m then Classical.choose (hat i h) else ⟨#[]⟩, fun i hi' => ?_⟩
      simp only [dif_pos hi']
      exact Classical.choose_spec (hat i hi')
    refine ⟨_, l, m, (List.range l).map f, rfl, by simp, hl, hm, fun k hk => ?_, hbytes, fun p hp => ?_⟩
    · simp at hk
      obtain ⟨g0, gs⟩ := hf' k (by omega)
      obtain ⟨b, off, rfl⟩ := spot_none (hf' 0 (by omega)).1
      rw [add_none, Nat.mul_one] at g0
      have hb := cell_block_lt g0
      have e : ((List.range l).map f).getD k ⟨#[]⟩ = f k := by simp [List.getD, List.getElem?_map, List.getElem?_range hk]
      rw [e]
      exact ⟨b, off, rfl, hb, g0⟩
    · obtain ⟨k, hk, rfl⟩ := List.mem_map.1 hp
      exact (hf' k (by have := List.mem_range.1 hk; omega)).2
/-- A zone that comes in. -/
structure ZIn (w : World) (z : Zm) (P : Option Addr) (c : Nat) : Prop where
  cap : z.ps.length ≤ c
  max : c ≤ maxLen
  ts : TsR w P z.ps
  big : z.ps.length ≤ 8796093021952
  nm : z.nm.size ≤ maxLen
  sz : ∀ p ∈ z.ps, p.size ≤ maxLen
set_option maxRecDepth 100000 in
theorem zn_in {H : Type} {enc : TypeId × Value → H} {w : World} {base : Nat} {held : Bool} {fuel : Nat} {cs : List Value} {x : DataW H × List MemPlace}
    (h : DataW.trod enc Tryz.prog w base (fun _ => true) held fuel 57 cs = some x) (hl : cs.length = 2) (hw : WL 57 x.1) : ∃ (z : Zm) (P : Option Addr) (c : Nat), cs = [.string z.nm, .slice P z.ps.length c] ∧ ZIn w z P c := by
  have he : Tryz.prog.underlying 57 = some (.struct (Tryz.prog.fieldsOf 57)) := by kernel_rfl
  obtain ⟨c0, c1, rfl⟩ := list2 hl
  obtain ⟨ys, n', hn', hy, hlen, hyl, hfl⟩ := DataW.trod_struct he h
  have h0 := hfl 0 _ rfl
  have e0 : ys[0]? = some (ys[0]'(by rw [hyl]; decide)) := List.getElem?_eq_getElem _
  rw [e0] at h0
  have h1 := hfl 1 _ rfl
  have e1 : ys[1]? = some (ys[1]'(by rw [hyl]; decide)) := List.getElem?_eq_getElem _
  rw [e1] at h1
  have hD : x.1 = .agg (ys.map (·.1)) := congrArg Prod.fst hy
  rw [hD] at hw
  have hw1 : WL 55 (ys[1]'(by rw [hyl]; decide)).1 := WL.part he hw (j := 1) rfl (by rw [List.getElem?_map, e1]; rfl)
  obtain ⟨u0, hu0, s0⟩ := str_inV (v := c0) h0
  obtain ⟨A, n, c, zs, hv, k1, k2, k3, k4, k5, k6⟩ := ts_in h1 hw1
  subst hu0 hv k1
  exact ⟨⟨u0, zs⟩, A, c, rfl, ⟨k2, k3, k4, k5, s0, k6⟩⟩
set_option maxRecDepth 100000 in
theorem zns_of {H : Type} {enc : TypeId × Value → H} {w : World} {d : DataW H} {p : List MemPlace} {A : Option Addr} {len cap : Nat}
    (h : DataW.Trod enc Tryz.prog w 0 (fun _ => true) true 27 (.slice A len cap) d p) (hw : WL 27 d) : ∃ l : List Zm, l.length = len ∧ len ≤ cap ∧ cap ≤ maxLen ∧ ZsR w A l ∧ ∀ z ∈ l, z.ps.length ≤ 8796093021952 ∧ z.nm.size ≤ maxLen ∧ ∀ p ∈ z.ps, p.size ≤ maxLen := by
  obtain ⟨fuel, hf⟩ := h
  rcases open_slice Tryz.underlying27 hf with ⟨hcs, _⟩ | ⟨a, l, c, m, n, D, Pl, hcs, _, hl, hm, hmm, hx, hi⟩
  · simp [Value.cells] at hcs
    obtain ⟨rfl, rfl, rfl⟩ := hcs
    exact ⟨[], rfl, Nat.le_refl _, Nat.zero_le _, fun k hk => absurd hk (Nat.not_lt_zero k), fun z hz => by cases hz⟩
  · simp [Value.cells] at hcs
    obtain ⟨rfl, rfl, rfl⟩ := hcs
    simp at hmm
    subst hmm
    have hx : d = _ := congrArg Prod.fst hx
    rw [hx] at hw
    have hC : Tryz.prog.cellsOf 57 = 2 := by kernel_rfl
    have hat : ∀ i, i < len → ∃ y : Zm × Option Addr × Nat, (w.cell? (a.add (i * 2)) = some (.string y.1.nm) ∧ w.cell? (a.add (i * 2 + 1)) = some (.slice y.2.1 y.1.ps.length y.2.2)) ∧ ZIn w y.1 y.2.1 y.2.2 := by
      intro i hil
      obtain ⟨cs', hc, ht'⟩ := hi i (by omega)
      rw [hC] at hc
      obtain ⟨_, hcl, hcat⟩ := World.cells?_some hc
      have hwi : WL 57 (D i) := WL.elem Tryz.underlying27 hw (List.mem_map.2 ⟨i, List.mem_range.2 hil, rfl⟩)
      obtain ⟨z, P, c, rfl, hz⟩ := zn_in ht' hcl hwi
      have g0 := hcat 0 (by decide)
      have g1 := hcat 1 (by decide)
      rw [Go.Deep.add_add] at g0 g1
      exact ⟨(z, P, c), ⟨by simpa using g0, by simpa using g1⟩, hz⟩
    obtain ⟨f, hf'⟩ : ∃ f : Nat → Zm × Option Addr × Nat, ∀ i, i < len → (w.cell? (a.add (i * 2)) = some (.string (f i).1.nm) ∧ w.cell? (a.add (i * 2 + 1)) = some (.slice (f i).2.1 (f i).1.ps.length (f i).2.2)) ∧ ZIn w (f i).1 (f i).2.1 (f i).2.2 := by
      refine ⟨fun i => if h : i < len then Classical.choose (hat i h) else (zm0, none, 0), fun i hi' => ?_⟩
      simp only [dif_pos hi']
      exact Classical.choose_spec (hat i hi')
    refine ⟨(List.range len).map fun i => (f i).1, by simp, by omega, by omega, fun k hk => ?_, fun z hz => ?_⟩
    · simp at hk
      obtain ⟨⟨g0, g1⟩, gz⟩ := hf' k hk
      obtain ⟨b, off, rfl⟩ := spot_none (k := 2) (hf' 0 (by omega)).1.1
      have e : ((List.range len).map fun i => (f i).1).getD k zm0 = (f k).1 := by simp [List.getD, List.getElem?_map, List.getElem?_range hk]
      rw [add_none] at g0 g1
      have hb := cell_block_lt g0
      rw [e]
      refine ⟨b, off, (f k).2.1, (f k).2.2, rfl, hb, g0, ?_, gz.cap, gz.max, gz.ts, fun a' ha hp => ?_⟩
      · rw [Nat.add_assoc]; exact g1
      · obtain ⟨b', o', he, hlt, -⟩ := gz.ts 0 hp
        rw [ha] at he
        injection he with he
        rw [he]; exact hlt
    · obtain ⟨k, hk, rfl⟩ := List.mem_map.1 hz
      have gz := (hf' k (List.mem_range.1 hk)).2
      exact ⟨gz.big, gz.nm, gz.sz⟩
end Go.Proofs.YtpkmnefbofhjbaaGreat.Zn
namespace Go.Proofs.YtpkmnefbofhjbaaGreat.Ck
open Go.ChangeShapes Go.WideShapes Go.ChangeAt Go.RowKit Go.Deep Go.Lib

theorem list5 {α : Type} {cs : List α} (h : cs.length = 5) : ∃ c0 c1 c2 c3 c4, cs = [c0, c1, c2, c3, c4] := by
  match cs, h with
  | [c0, c1, c2, c3, c4], _ => exact ⟨c0, c1, c2, c3, c4, rfl⟩
theorem list6 {α : Type} {cs : List α} (h : cs.length = 6) : ∃ c0 c1 c2 c3 c4 c5, cs = [c0, c1, c2, c3, c4, c5] := by
  match cs, h with
  | [c0, c1, c2, c3, c4, c5], _ => exact ⟨c0, c1, c2, c3, c4, c5, rfl⟩
theorem list7 {α : Type} {cs : List α} (h : cs.length = 7) : ∃ c0 c1 c2 c3 c4 c5 c6, cs = [c0, c1, c2, c3, c4, c5, c6] := by
  match cs, h with
  | [c0, c1, c2, c3, c4, c5, c6], _ => exact ⟨c0, c1, c2, c3, c4, c5, c6, rfl⟩
set_option maxRecDepth 100000 in
/-- A ladder that comes in lies within reach. -/
theorem sps_inW {H : Type} {enc : TypeId × Value → H} {w : World} {base : Nat} {spare : Nat → Bool} {held : Bool} {fuel : Nat} {v : Value} {x : DataW H × List MemPlace}
    (h : DataW.trod enc Tryz.prog w base spare held fuel 61 [v] = some x) (hw : WL 61 x.1) : ∃ A n c l, v = .slice A n c ∧ l.length = n ∧ n ≤ c ∧ c ≤ maxLen ∧ SpR w A l ∧ n ≤ 10000000000000 := by
  obtain ⟨A, n, c, l, hv, h1, h2, h3, h4⟩ := sps_in h
  refine ⟨A, n, c, l, hv, h1, h2, h3, h4, ?_⟩
  subst hv
  rcases open_sl Tryz.underlying61 h with hcs | ⟨a, l', c', n', E, S, _, hcs, _, _, hx, hE, _⟩
  · have : n = 0 := by simp at hcs; exact hcs.2.1
    omega
  · have hn : n = l' := by simp at hcs; exact hcs.2.1
    rw [hx] at hw
    have h1 := WL.size Tryz.underlying61 hw
    rw [show Tryz.prog.bytesOf 102 = 24 from by kernel_rfl, hE] at h1
    simp only [reachBytes] at h1
    omega
set_option maxRecDepth 100000 in
theorem rt_in {H : Type} {enc : TypeId × Value → H} {w : World} {base : Nat} {spare : Nat → Bool} {held : Bool} {fuel : Nat} {cs : List Value} {x : DataW H × List MemPlace}
    (h : DataW.trod enc Tryz.prog w base spare held fuel 63 cs = some x) (hl : cs.length = 5) (hw : WL 63 x.1) : ∃ (r : Rt) (S : Option Addr) (c : Nat), cs = [.int .i64 r.kd, .string r.zn, .string r.bn, .int .i64 r.su, .slice S r.st.length c] ∧ r.st.length ≤ c ∧ c ≤ maxLen ∧ SpR w S r.st ∧ r.st.length ≤ 10000000000000 ∧ r.bn.size ≤ maxLen := by
  have he : Tryz.prog.underlying 63 = some (.struct (Tryz.prog.fieldsOf 63)) := by kernel_rfl
  obtain ⟨c0, c1, c2, c3, c4, rfl⟩ := list5 hl
  obtain ⟨ys, n', hn', hy, hlen, hyl, hfl⟩ := DataW.trod_struct he h
  have h0 := hfl 0 _ rfl
  rw [List.getElem?_eq_getElem (show 0 < ys.length by rw [hyl]; decide)] at h0
  have h1 := hfl 1 _ rfl
  rw [List.getElem?_eq_getElem (show 1 < ys.length by rw [hyl]; decide)] at h1
  have h2 := hfl 2 _ rfl
  rw [List.getElem?_eq_getElem (show 2 < ys.length by rw [hyl]; decide)] at h2
  have h3 := hfl 3 _ rfl
  rw [List.getElem?_eq_getElem (show 3 < ys.length by rw [hyl]; decide)] at h3
  have h4 := hfl 4 _ rfl
  have e4 : ys[4]? = some (ys[4]'(by rw [hyl]; decide)) := List.getElem?_eq_getElem _
  rw [e4] at h4
  have hD : x.1 = .agg (ys.map (·.1)) := congrArg Prod.fst hy
  rw [hD] at hw
  have hw4 : WL 61 (ys[4]'(by rw [hyl]; decide)).1 := WL.part he hw (j := 4) rfl (by rw [List.getElem?_map, e4]; rfl)
  obtain ⟨u0, rfl⟩ := int_inV (v := c0) h0
  obtain ⟨u1, rfl, _⟩ := str_inV (v := c1) h1
  obtain ⟨u2, rfl, s2⟩ := str_inV (v := c2) h2
  obtain ⟨u3, rfl⟩ := int_inV (v := c3) h3
  obtain ⟨S, n, c, l, rfl, k1, k2, k3, k4, k5⟩ := sps_inW (v := c4) h4 hw4
  subst k1
  exact ⟨⟨u0, u1, u2, u3, l⟩, S, c, rfl, k2, k3, k4, k5, s2⟩
set_option maxRecDepth 100000 in
theorem rts_in {H : Type} {enc : TypeId × Value → H} {w : World} {base : Nat} {spare : Nat → Bool} {held : Bool} {fuel : Nat} {v : Value} {x : DataW H × List MemPlace}
    (h : DataW.trod enc Tryz.prog w base spare held fuel 29 [v] = some x) (hw : WL 29 x.1) : ∃ A n c l, v = .slice A n c ∧ l.length = n ∧ n ≤ c ∧ c ≤ maxLen ∧ RtR w A l ∧ ∀ r ∈ l, r.st.length ≤ 10000000000000 ∧ r.bn.size ≤ maxLen := by
  rcases open_sl Tryz.underlying29 h with hcs | ⟨a, l, c, n, E, S, _, hcs, hl, hm, hx, _, hi⟩
  · obtain rfl : v = .slice none 0 0 := by simpa using hcs
    exact ⟨none, 0, 0, [], rfl, rfl, Nat.le_refl _, by decide, fun k hk => absurd hk (Nat.not_lt_zero k), fun r hr => by cases hr⟩
  · obtain rfl : v = .slice (some a) l c := by simpa using hcs
    rw [hx] at hw
    have hC : Tryz.prog.cellsOf 63 = 5 := by kernel_rfl
    have hat : ∀ i, i < l → ∃ r : Rt, ∃ (S : Option Addr) (c' : Nat), (∀ j, j < 5 → w.cell? (a.add (i * 5 + j)) = [Value.int .i64 r.kd, .string r.zn, .string r.bn, .int .i64 r.su, .slice S r.st.length c'][j]?) ∧ r.st.length ≤ c' ∧ c' ≤ maxLen ∧ SpR w S r.st ∧ r.st.length ≤ 10000000000000 ∧ r.bn.size ≤ maxLen := by
      intro i hil
      obtain ⟨cs', y, hc, ht', hmem⟩ := hi i hil
      rw [hC] at hc
      obtain ⟨_, hcl, hcat⟩ := World.cells?_some hc
      obtain ⟨r, S', c', rfl, k1, k2, k3, k4⟩ := rt_in ht' hcl (WL.elem Tryz.underlying29 hw hmem)
      refine ⟨r, S', c', fun j hj => ?_, k1, k2, k3, k4⟩
      have g := hcat j hj
      rw [Go.Deep.add_add] at g
      exact g
    obtain ⟨f, hf'⟩ : ∃ f : Nat → Rt, ∀ i, i < l → ∃ (S : Option Addr) (c' : Nat), (∀ j, j < 5 → w.cell? (a.add (i * 5 + j)) = [Value.int .i64 (f i).kd, .string (f i).zn, .string (f i).bn, .int .i64 (f i).su, .slice S (f i).st.length c'][j]?) ∧ (f i).st.length ≤ c' ∧ c' ≤ maxLen ∧ SpR w S (f i).st ∧ (f i).st.length ≤ 10000000000000 ∧ (f i).bn.size ≤ maxLen := by
      refine ⟨fun i => if h : i < l then Classical.choose (hat i h) else rt0, fun i hi' => ?_⟩
      simp only [dif_pos hi']
      exact Classical.choose_spec (hat i hi')
    refine ⟨_, l, c, (List.range l).map f, rfl, by simp, hl, hm, fun k hk => ?_, fun r hr => ?_⟩
    · simp at hk
      obtain ⟨S', c', g, k1, k2, k3, k4⟩ := hf' k hk
      obtain ⟨_, _, gz, _⟩ := hf' 0 (by omega)
      obtain ⟨b, off, rfl⟩ := spot_none (k := 0) ((gz 0 (by omega)).trans rfl)
      have e : ((List.range l).map f).getD k rt0 = f k := by simp [List.getD, List.getElem?_map, List.getElem?_range hk]
      have g0 := g 0 (by omega); have g1 := g 1 (by omega); have g2 := g 2 (by omega); have g3 := g 3 (by omega); have g4 := g 4 (by omega)
      rw [add_none] at g0 g1 g2 g3 g4
      have hb := cell_block_lt (g0.trans rfl)
      rw [e]
      exact ⟨b, off, S', c', rfl, hb, g0, g1, g2, g3, g4, k1, k2, k3⟩
    · obtain ⟨i, hi2, rfl⟩ := List.mem_map.1 hr
      obtain ⟨_, _, _, _, _, _, k4⟩ := hf' i (by simpa using hi2)
      exact k4
set_option maxRecDepth 100000 in
theorem dc_in {H : Type} {enc : TypeId × Value → H} {w : World} {base : Nat} {spare : Nat → Bool} {held : Bool} {fuel : Nat} {cs : List Value} {x : DataW H × List MemPlace}
    (h : DataW.trod enc Tryz.prog w base spare held fuel 69 cs = some x) (hl : cs.length = 6) : ∃ (r : Dc) (S : Option Addr) (c d : Nat), cs = [.string r.nm, .int .i64 r.op, .int .i64 r.num, .string r.tx, .slice S r.us.length c, .int .i64 r.pt] ∧ r.us.length ≤ c ∧ c ≤ maxLen ∧ XA w d S r.us ∧ r.nm.size ≤ maxLen ∧ r.tx.size ≤ maxLen := by
  have he : Tryz.prog.underlying 69 = some (.struct (Tryz.prog.fieldsOf 69)) := by kernel_rfl
  obtain ⟨c0, c1, c2, c3, c4, c5, rfl⟩ := list6 hl
  obtain ⟨ys, n', hn', hy, hlen, hyl, hfl⟩ := DataW.trod_struct he h
  have h0 := hfl 0 _ rfl
  rw [List.getElem?_eq_getElem (show 0 < ys.length by rw [hyl]; decide)] at h0
  have h1 := hfl 1 _ rfl
  rw [List.getElem?_eq_getElem (show 1 < ys.length by rw [hyl]; decide)] at h1
  have h2 := hfl 2 _ rfl
  rw [List.getElem?_eq_getElem (show 2 < ys.length by rw [hyl]; decide)] at h2
  obtain ⟨u0, rfl, s0⟩ := str_inV (v := c0) h0
  have h1' : DataW.trod enc Tryz.prog w base spare held n' 67 [c1, c2, c3, c4] = some _ := h1
  obtain ⟨op, num, tx, us, A, n, c, hcs, k1, k2, k3, k4, k5⟩ := exp_in n' h1' rfl
  obtain ⟨rfl, rfl, rfl, rfl⟩ : c1 = .int .i64 op ∧ c2 = .int .i64 num ∧ c3 = .string tx ∧ c4 = .slice A n c := by simpa using hcs
  obtain ⟨u5, rfl⟩ := int_inV (v := c5) h2
  subst k1
  exact ⟨⟨u0, op, num, tx, us, u5⟩, A, c, n', rfl, k2, k3, k5, s0, k4⟩
set_option maxRecDepth 100000 in
theorem dcs_in {H : Type} {enc : TypeId × Value → H} {w : World} {base : Nat} {spare : Nat → Bool} {held : Bool} {fuel : Nat} {v : Value} {x : DataW H × List MemPlace}
    (h : DataW.trod enc Tryz.prog w base spare held fuel 30 [v] = some x) : ∃ A n c l, v = .slice A n c ∧ l.length = n ∧ n ≤ c ∧ c ≤ maxLen ∧ DcR w A l := by
  rcases open_sl Tryz.underlying30 h with hcs | ⟨a, l, c, n, E, S, _, hcs, hl, hm, hx, _, hi⟩
  · obtain rfl : v = .slice none 0 0 := by simpa using hcs
    exact ⟨none, 0, 0, [], rfl, rfl, Nat.le_refl _, by decide, fun k hk => absurd hk (Nat.not_lt_zero k)⟩
  · obtain rfl : v = .slice (some a) l c := by simpa using hcs
    have hC : Tryz.prog.cellsOf 69 = 6 := by kernel_rfl
    have hat : ∀ i, i < l → ∃ r : Dc, ∃ (S : Option Addr) (c' d : Nat), (∀ j, j < 6 → w.cell? (a.add (i * 6 + j)) = [Value.string r.nm, .int .i64 r.op, .int .i64 r.num, .string r.tx, .slice S r.us.length c', .int .i64 r.pt][j]?) ∧ r.us.length ≤ c' ∧ c' ≤ maxLen ∧ XA w d S r.us ∧ r.nm.size ≤ maxLen ∧ r.tx.size ≤ maxLen := by
      intro i hil
      obtain ⟨cs', y, hc, ht', hmem⟩ := hi i hil
      rw [hC] at hc
      obtain ⟨_, hcl, hcat⟩ := World.cells?_some hc
      obtain ⟨r, S', c', d, rfl, k1, k2, k3, k4⟩ := dc_in ht' hcl
      refine ⟨r, S', c', d, fun j hj => ?_, k1, k2, k3, k4⟩
      have g := hcat j hj
      rw [Go.Deep.add_add] at g
      exact g
    obtain ⟨f, hf'⟩ : ∃ f : Nat → Dc, ∀ i, i < l → ∃ (S : Option Addr) (c' d : Nat), (∀ j, j < 6 → w.cell? (a.add (i * 6 + j)) = [Value.string (f i).nm, .int .i64 (f i).op, .int .i64 (f i).num, .string (f i).tx, .slice S (f i).us.length c', .int .i64 (f i).pt][j]?) ∧ (f i).us.length ≤ c' ∧ c' ≤ maxLen ∧ XA w d S (f i).us ∧ (f i).nm.size ≤ maxLen ∧ (f i).tx.size ≤ maxLen := by
      refine ⟨fun i => if h : i < l then Classical.choose (hat i h) else dc0, fun i hi' => ?_⟩
      simp only [dif_pos hi']
      exact Classical.choose_spec (hat i hi')
    refine ⟨_, l, c, (List.range l).map f, rfl, by simp, hl, hm, fun k hk => ?_⟩
    simp at hk
    obtain ⟨S', c', d, g, k1, k2, k3, k4, k5⟩ := hf' k hk
    obtain ⟨_, _, _, gz, _⟩ := hf' 0 (by omega)
    obtain ⟨b, off, rfl⟩ := spot_none (k := 0) ((gz 0 (by omega)).trans rfl)
    have e : ((List.range l).map f).getD k dc0 = f k := by simp [List.getD, List.getElem?_map, List.getElem?_range hk]
    have g0 := g 0 (by omega); have g1 := g 1 (by omega); have g2 := g 2 (by omega); have g3 := g 3 (by omega); have g4 := g 4 (by omega); have g5 := g 5 (by omega)
    rw [add_none] at g0 g1 g2 g3 g4 g5
    have hb := cell_block_lt (g0.trans rfl)
    rw [e]
    exact ⟨b, off, S', c', d, rfl, hb, g0, g1, g2, g3, g4, g5, k1, k2, k3, k4, k5⟩
/-- What is known of the zones of a tariff that comes in. -/
def TfZ (t : Tf) : Prop := ∀ z ∈ t.zl, z.nm.size ≤ maxLen ∧ ∀ p ∈ z.ps, p.size ≤ maxLen
set_option maxRecDepth 100000 in
theorem tar_of {H : Type} {enc : TypeId × Value → H} {w : World} {r : Reach} {b0 : Nat} {v : Value} {d : DataW H} {p : List MemPlace}
    (hv : Value.okWide Tryz.prog w r b0 32 v) (h : DataW.Trod enc Tryz.prog w 0 (fun _ => true) true 32 v d p) (hw : WL 32 d) : ∃ t : Tf, v = .agg t.cells ∧ TfN t ∧ TfR w t ∧ TfB t ∧ TfZ t := by
  have he : Tryz.prog.underlying 32 = some (.struct (Tryz.prog.fieldsOf 32)) := by kernel_rfl
  have hC : Tryz.prog.cellsOf 32 = 7 := by kernel_rfl
  obtain ⟨cs, rfl, hsz⟩ := okWide_struct he hv
  obtain ⟨fuel, hf⟩ := h
  have hf' : DataW.trod enc Tryz.prog w 0 (fun _ => true) true fuel 32 cs.toList = some (d, p) := hf
  obtain ⟨c0, c1, c2, c3, c4, c5, c6, hcs⟩ := list7 (cs := cs.toList) (by rw [Array.length_toList, hsz, hC])
  rw [hcs] at hf'
  obtain ⟨ys, n', hn', hy, hlen, hyl, hfl⟩ := DataW.trod_struct he hf'
  have h0 := hfl 0 _ rfl
  rw [List.getElem?_eq_getElem (show 0 < ys.length by rw [hyl]; decide)] at h0
  have h1 := hfl 1 _ rfl
  rw [List.getElem?_eq_getElem (show 1 < ys.length by rw [hyl]; decide)] at h1
  have h2 := hfl 2 _ rfl
  rw [List.getElem?_eq_getElem (show 2 < ys.length by rw [hyl]; decide)] at h2
  have h3 := hfl 3 _ rfl
  have e3 : ys[3]? = some (ys[3]'(by rw [hyl]; decide)) := List.getElem?_eq_getElem _
  rw [e3] at h3
  have h4 := hfl 4 _ rfl
  have e4 : ys[4]? = some (ys[4]'(by rw [hyl]; decide)) := List.getElem?_eq_getElem _
  rw [e4] at h4
  have h5 := hfl 5 _ rfl
  have e5 : ys[5]? = some (ys[5]'(by rw [hyl]; decide)) := List.getElem?_eq_getElem _
  rw [e5] at h5
  have h6 := hfl 6 _ rfl
  rw [List.getElem?_eq_getElem (show 6 < ys.length by rw [hyl]; decide)] at h6
  have hD : d = .agg (ys.map (·.1)) := congrArg Prod.fst hy
  rw [hD] at hw
  have hw3 : WL 27 (ys[3]'(by rw [hyl]; decide)).1 := WL.part he hw (j := 3) rfl (by rw [List.getElem?_map, e3]; rfl)
  have hw4 : WL 28 (ys[4]'(by rw [hyl]; decide)).1 := WL.part he hw (j := 4) rfl (by rw [List.getElem?_map, e4]; rfl)
  have hw5 : WL 29 (ys[5]'(by rw [hyl]; decide)).1 := WL.part he hw (j := 5) rfl (by rw [List.getElem?_map, e5]; rfl)
  obtain ⟨u0, rfl, s0⟩ := str_inV (v := c0) h0
  obtain ⟨u1, rfl⟩ := int_inV (v := c1) h1
  obtain ⟨u2, rfl⟩ := bool_inV (v := c2) h2
  have h3' : DataW.trod enc Tryz.prog w 0 (fun _ => true) true n' 27 [c3] = some _ := h3
  obtain ⟨ZA, zn, zc, rfl⟩ : ∃ A n c, c3 = .slice A n c := by
    rcases open_sl Tryz.underlying27 h3' with hq | ⟨a, l, c, _, _, _, _, hq, _⟩
    · exact ⟨none, 0, 0, by simpa using hq⟩
    · exact ⟨some a, l, c, by simpa using hq⟩
  obtain ⟨zl, z1, z2, z3, z4, z5⟩ := Zn.zns_of (A := ZA) (len := zn) (cap := zc) ⟨n', h3'⟩ hw3
  obtain ⟨BA, bn, bc, bl, rfl, b1, b2, b3, b4, b5⟩ := bds_in (v := c4) h4 hw4
  obtain ⟨RA, rn, rc, rl, rfl, r1, r2, r3, r4, r5⟩ := rts_in (v := c5) h5 hw5
  obtain ⟨DA, dn, dc, dl, rfl, d1, d2, d3, d4⟩ := dcs_in (v := c6) h6
  refine ⟨⟨u0, u1, u2, ZA, zn, zc, zl, BA, bn, bc, bl, RA, rn, rc, rl, DA, dn, dc, dl⟩, ?_, ⟨s0, z1, z2, z3, b3, b1, b2, r1, r2, r3, d1, d2, d3⟩, ⟨z4, b4, r4, d4⟩, ⟨fun z hz => ?_, fun b hb => ?_, fun r hr => (r5 r hr).1, fun r hr => (r5 r hr).2⟩, fun z hz => (z5 z hz).2⟩
  · congr 1
    exact Array.toList_inj.1 hcs
  · have := (z5 z hz).1; omega
  · have := b5 b hb; omega
end Go.Proofs.YtpkmnefbofhjbaaGreat.Ck
