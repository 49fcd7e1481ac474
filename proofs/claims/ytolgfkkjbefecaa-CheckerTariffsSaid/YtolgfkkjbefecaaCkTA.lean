/- How a tariff that comes in reads. -/
import Derived.Test.YtolgfkkjbefecaaCkSm
import Derived.Test.YtolgfkkjbefecaaCkArg
import Derived.Test.YtolgfkkjbefecaaBdArg
import Derived.Test.YtolgfkkjbefecaaZnArg
namespace Go.Proofs.Ytolgfkkjbefecaa.Ck
open Go.ChangeShapes Go.WideShapes Go.ChangeAt Go.RowKit Go.Deep Go.Lib

theorem list5 {α : Type} {cs : List α} (h : cs.length = 5) : ∃ c0 c1 c2 c3 c4, cs = [c0, c1, c2, c3, c4] := by
  match cs, h with
  | [c0, c1, c2, c3, c4], _ => exact ⟨c0, c1, c2, c3, c4, rfl⟩
theorem list6 {α : Type} {cs : List α} (h : cs.length = 6) : ∃ c0 c1 c2 c3 c4 c5, cs = [c0, c1, c2, c3, c4, c5] := by
  match cs, h with
  | [c0, c1, c2, c3, c4, c5], _ => exact ⟨c0, c1, c2, c3, c4, c5, rfl⟩
theorem list7 {α : Type} {cs : List α} (h : cs.length = 7) : ∃ c0 c1 c2 c3 c4 c5 c6, cs = [c0, c1, c2, c3, c4, c5, c6] := by
  match cs, h with
  | [c0, c1, c2, c3, c4, c5, c6], _ => exact ⟨c0, c1, c2, c3, c4, c5, c6, rfl⟩
set_option maxRecDepth 100000 in
/-- A ladder that comes in lies within reach. -/
theorem sps_inW {H : Type} {enc : TypeId × Value → H} {w : World} {base : Nat} {spare : Nat → Bool} {held : Bool} {fuel : Nat} {v : Value} {x : DataW H × List MemPlace}
    (h : DataW.trod enc Try.prog w base spare held fuel 31 [v] = some x) (hw : WL 31 x.1) : ∃ A n c l, v = .slice A n c ∧ l.length = n ∧ n ≤ c ∧ c ≤ maxLen ∧ SpR w A l ∧ n ≤ 10000000000000 := by
  obtain ⟨A, n, c, l, hv, h1, h2, h3, h4⟩ := sps_in h
  refine ⟨A, n, c, l, hv, h1, h2, h3, h4, ?_⟩
  subst hv
  rcases open_sl Try.underlying31 h with hcs | ⟨a, l', c', n', E, S, _, hcs, _, _, hx, hE, _⟩
  · have : n = 0 := by simp at hcs; exact hcs.2.1
    omega
  · have hn : n = l' := by simp at hcs; exact hcs.2.1
    rw [hx] at hw
    have h1 := WL.size Try.underlying31 hw
    rw [show Try.prog.bytesOf 44 = 24 from by kernel_rfl, hE] at h1
    simp only [reachBytes] at h1
    omega
set_option maxRecDepth 100000 in
theorem rt_in {H : Type} {enc : TypeId × Value → H} {w : World} {base : Nat} {spare : Nat → Bool} {held : Bool} {fuel : Nat} {cs : List Value} {x : DataW H × List MemPlace}
    (h : DataW.trod enc Try.prog w base spare held fuel 46 cs = some x) (hl : cs.length = 5) (hw : WL 46 x.1) : ∃ (r : Rt) (S : Option Addr) (c : Nat), cs = [.int .i64 r.kd, .string r.zn, .string r.bn, .int .i64 r.su, .slice S r.st.length c] ∧ r.st.length ≤ c ∧ c ≤ maxLen ∧ SpR w S r.st ∧ r.st.length ≤ 10000000000000 ∧ r.bn.size ≤ maxLen := by
  have he : Try.prog.underlying 46 = some (.struct (Try.prog.fieldsOf 46)) := by kernel_rfl
  obtain ⟨c0, c1, c2, c3, c4, rfl⟩ := list5 hl
  obtain ⟨ys, n', hn', hy, hlen, hyl, hfl⟩ := DataW.trod_struct he h
  have h0 := hfl 0 _ rfl
  rw [List.getElem?_eq_getElem (show 0 < ys.length by rw [hyl]; decide)] at h0
  have h1 := hfl 1 _ rfl
  rw [List.getElem?_eq_getElem (show 1 < ys.length by rw [hyl]; decide)] at h1
  have h2 := hfl 2 _ rfl
  rw [List.getElem?_eq_getElem (show 2 < ys.length by rw [hyl]; decide)] at h2
  have h3 := hfl 3 _ rfl
  rw [List.getElem?_eq_getElem (show 3 < ys.length by rw [hyl]; decide)] at h3
  have h4 := hfl 4 _ rfl
  have e4 : ys[4]? = some (ys[4]'(by rw [hyl]; decide)) := List.getElem?_eq_getElem _
  rw [e4] at h4
  have hD : x.1 = .agg (ys.map (·.1)) := congrArg Prod.fst hy
  rw [hD] at hw
  have hw4 : WL 31 (ys[4]'(by rw [hyl]; decide)).1 := WL.part he hw (j := 4) rfl (by rw [List.getElem?_map, e4]; rfl)
  obtain ⟨u0, rfl⟩ := int_inV (v := c0) h0
  obtain ⟨u1, rfl, _⟩ := str_inV (v := c1) h1
  obtain ⟨u2, rfl, s2⟩ := str_inV (v := c2) h2
  obtain ⟨u3, rfl⟩ := int_inV (v := c3) h3
  obtain ⟨S, n, c, l, rfl, k1, k2, k3, k4, k5⟩ := sps_inW (v := c4) h4 hw4
  subst k1
  exact ⟨⟨u0, u1, u2, u3, l⟩, S, c, rfl, k2, k3, k4, k5, s2⟩
set_option maxRecDepth 100000 in
theorem rts_in {H : Type} {enc : TypeId × Value → H} {w : World} {base : Nat} {spare : Nat → Bool} {held : Bool} {fuel : Nat} {v : Value} {x : DataW H × List MemPlace}
    (h : DataW.trod enc Try.prog w base spare held fuel 36 [v] = some x) (hw : WL 36 x.1) : ∃ A n c l, v = .slice A n c ∧ l.length = n ∧ n ≤ c ∧ c ≤ maxLen ∧ RtR w A l ∧ ∀ r ∈ l, r.st.length ≤ 10000000000000 ∧ r.bn.size ≤ maxLen := by
  rcases open_sl Try.underlying36 h with hcs | ⟨a, l, c, n, E, S, _, hcs, hl, hm, hx, _, hi⟩
  · obtain rfl : v = .slice none 0 0 := by simpa using hcs
    exact ⟨none, 0, 0, [], rfl, rfl, Nat.le_refl _, by decide, fun k hk => absurd hk (Nat.not_lt_zero k), fun r hr => by cases hr⟩
  · obtain rfl : v = .slice (some a) l c := by simpa using hcs
    rw [hx] at hw
    have hC : Try.prog.cellsOf 46 = 5 := by kernel_rfl
    have hat : ∀ i, i < l → ∃ r : Rt, ∃ (S : Option Addr) (c' : Nat), (∀ j, j < 5 → w.cell? (a.add (i * 5 + j)) = [Value.int .i64 r.kd, .string r.zn, .string r.bn, .int .i64 r.su, .slice S r.st.length c'][j]?) ∧ r.st.length ≤ c' ∧ c' ≤ maxLen ∧ SpR w S r.st ∧ r.st.length ≤ 10000000000000 ∧ r.bn.size ≤ maxLen := by
      intro i hil
      obtain ⟨cs', y, hc, ht', hmem⟩ := hi i hil
      rw [hC] at hc
      obtain ⟨_, hcl, hcat⟩ := World.cells?_some hc
      obtain ⟨r, S', c', rfl, k1, k2, k3, k4⟩ := rt_in ht' hcl (WL.elem Try.underlying36 hw hmem)
      refine ⟨r, S', c', fun j hj => ?_, k1, k2, k3, k4⟩
      have g := hcat j hj
      rw [Go.Deep.add_add] at g
      exact g
    obtain ⟨f, hf'⟩ : ∃ f : Nat → Rt, ∀ i, i < l → ∃ (S : Option Addr) (c' : Nat), (∀ j, j < 5 → w.cell? (a.add (i * 5 + j)) = [Value.int .i64 (f i).kd, .string (f i).zn, .string (f i).bn, .int .i64 (f i).su, .slice S (f i).st.length c'][j]?) ∧ (f i).st.length ≤ c' ∧ c' ≤ maxLen ∧ SpR w S (f i).st ∧ (f i).st.length ≤ 10000000000000 ∧ (f i).bn.size ≤ maxLen := by
      refine ⟨fun i => if h : i < l then Classical.choose (hat i h) else rt0, fun i hi' => ?_⟩
      simp only [dif_pos hi']
      exact Classical.choose_spec (hat i hi')
    refine ⟨_, l, c, (List.range l).map f, rfl, by simp, hl, hm, fun k hk => ?_, fun r hr => ?_⟩
    · simp at hk
      obtain ⟨S', c', g, k1, k2, k3, k4⟩ := hf' k hk
      obtain ⟨_, _, gz, _⟩ := hf' 0 (by omega)
      obtain ⟨b, off, rfl⟩ := spot_none (k := 0) ((gz 0 (by omega)).trans rfl)
      have e : ((List.range l).map f).getD k rt0 = f k := by simp [List.getD, List.getElem?_map, List.getElem?_range hk]
      have g0 := g 0 (by omega); have g1 := g 1 (by omega); have g2 := g 2 (by omega); have g3 := g 3 (by omega); have g4 := g 4 (by omega)
      rw [add_none] at g0 g1 g2 g3 g4
      have hb := cell_block_lt (g0.trans rfl)
      rw [e]
      exact ⟨b, off, S', c', rfl, hb, g0, g1, g2, g3, g4, k1, k2, k3⟩
    · obtain ⟨i, hi2, rfl⟩ := List.mem_map.1 hr
      obtain ⟨_, _, _, _, _, _, k4⟩ := hf' i (by simpa using hi2)
      exact k4
set_option maxRecDepth 100000 in
theorem dc_in {H : Type} {enc : TypeId × Value → H} {w : World} {base : Nat} {spare : Nat → Bool} {held : Bool} {fuel : Nat} {cs : List Value} {x : DataW H × List MemPlace}
    (h : DataW.trod enc Try.prog w base spare held fuel 60 cs = some x) (hl : cs.length = 6) : ∃ (r : Dc) (S : Option Addr) (c d : Nat), cs = [.string r.nm, .int .i64 r.op, .int .i64 r.num, .string r.tx, .slice S r.us.length c, .int .i64 r.pt] ∧ r.us.length ≤ c ∧ c ≤ maxLen ∧ XA w d S r.us ∧ r.nm.size ≤ maxLen ∧ r.tx.size ≤ maxLen := by
  have he : Try.prog.underlying 60 = some (.struct (Try.prog.fieldsOf 60)) := by kernel_rfl
  obtain ⟨c0, c1, c2, c3, c4, c5, rfl⟩ := list6 hl
  obtain ⟨ys, n', hn', hy, hlen, hyl, hfl⟩ := DataW.trod_struct he h
  have h0 := hfl 0 _ rfl
  rw [List.getElem?_eq_getElem (show 0 < ys.length by rw [hyl]; decide)] at h0
  have h1 := hfl 1 _ rfl
  rw [List.getElem?_eq_getElem (show 1 < ys.length by rw [hyl]; decide)] at h1
  have h2 := hfl 2 _ rfl
  rw [List.getElem?_eq_getElem (show 2 < ys.length by rw [hyl]; decide)] at h2
  obtain ⟨u0, rfl, s0⟩ := str_inV (v := c0) h0
  have h1' : DataW.trod enc Try.prog w base spare held n' 24 [c1, c2, c3, c4] = some _ := h1
  obtain ⟨op, num, tx, us, A, n, c, hcs, k1, k2, k3, k4, k5⟩ := exp_in n' h1' rfl
  obtain ⟨rfl, rfl, rfl, rfl⟩ : c1 = .int .i64 op ∧ c2 = .int .i64 num ∧ c3 = .string tx ∧ c4 = .slice A n c := by simpa using hcs
  obtain ⟨u5, rfl⟩ := int_inV (v := c5) h2
  subst k1
  exact ⟨⟨u0, op, num, tx, us, u5⟩, A, c, n', rfl, k2, k3, k5, s0, k4⟩
set_option maxRecDepth 100000 in
theorem dcs_in {H : Type} {enc : TypeId × Value → H} {w : World} {base : Nat} {spare : Nat → Bool} {held : Bool} {fuel : Nat} {v : Value} {x : DataW H × List MemPlace}
    (h : DataW.trod enc Try.prog w base spare held fuel 37 [v] = some x) : ∃ A n c l, v = .slice A n c ∧ l.length = n ∧ n ≤ c ∧ c ≤ maxLen ∧ DcR w A l := by
  rcases open_sl Try.underlying37 h with hcs | ⟨a, l, c, n, E, S, _, hcs, hl, hm, hx, _, hi⟩
  · obtain rfl : v = .slice none 0 0 := by simpa using hcs
    exact ⟨none, 0, 0, [], rfl, rfl, Nat.le_refl _, by decide, fun k hk => absurd hk (Nat.not_lt_zero k)⟩
  · obtain rfl : v = .slice (some a) l c := by simpa using hcs
    have hC : Try.prog.cellsOf 60 = 6 := by kernel_rfl
    have hat : ∀ i, i < l → ∃ r : Dc, ∃ (S : Option Addr) (c' d : Nat), (∀ j, j < 6 → w.cell? (a.add (i * 6 + j)) = [Value.string r.nm, .int .i64 r.op, .int .i64 r.num, .string r.tx, .slice S r.us.length c', .int .i64 r.pt][j]?) ∧ r.us.length ≤ c' ∧ c' ≤ maxLen ∧ XA w d S r.us ∧ r.nm.size ≤ maxLen ∧ r.tx.size ≤ maxLen := by
      intro i hil
      obtain ⟨cs', y, hc, ht', hmem⟩ := hi i hil
      rw [hC] at hc
      obtain ⟨_, hcl, hcat⟩ := World.cells?_some hc
      obtain ⟨r, S', c', d, rfl, k1, k2, k3, k4⟩ := dc_in ht' hcl
      refine ⟨r, S', c', d, fun j hj => ?_, k1, k2, k3, k4⟩
      have g := hcat j hj
      rw [Go.Deep.add_add] at g
      exact g
    obtain ⟨f, hf'⟩ : ∃ f : Nat → Dc, ∀ i, i < l → ∃ (S : Option Addr) (c' d : Nat), (∀ j, j < 6 → w.cell? (a.add (i * 6 + j)) = [Value.string (f i).nm, .int .i64 (f i).op, .int .i64 (f i).num, .string (f i).tx, .slice S (f i).us.length c', .int .i64 (f i).pt][j]?) ∧ (f i).us.length ≤ c' ∧ c' ≤ maxLen ∧ XA w d S (f i).us ∧ (f i).nm.size ≤ maxLen ∧ (f i).tx.size ≤ maxLen := by
      refine ⟨fun i => if h : i < l then Classical.choose (hat i h) else dc0, fun i hi' => ?_⟩
      simp only [dif_pos hi']
      exact Classical.choose_spec (hat i hi')
    refine ⟨_, l, c, (List.range l).map f, rfl, by simp, hl, hm, fun k hk => ?_⟩
    simp at hk
    obtain ⟨S', c', d, g, k1, k2, k3, k4, k5⟩ := hf' k hk
    obtain ⟨_, _, _, gz, _⟩ := hf' 0 (by omega)
    obtain ⟨b, off, rfl⟩ := spot_none (k := 0) ((gz 0 (by omega)).trans rfl)
    have e : ((List.range l).map f).getD k dc0 = f k := by simp [List.getD, List.getElem?_map, List.getElem?_range hk]
    have g0 := g 0 (by omega); have g1 := g 1 (by omega); have g2 := g 2 (by omega); have g3 := g 3 (by omega); have g4 := g 4 (by omega); have g5 := g 5 (by omega)
    rw [add_none] at g0 g1 g2 g3 g4 g5
    have hb := cell_block_lt (g0.trans rfl)
    rw [e]
    exact ⟨b, off, S', c', d, rfl, hb, g0, g1, g2, g3, g4, g5, k1, k2, k3, k4, k5⟩
/-- What is known of the zones of a tariff that comes in. -/
def TfZ (t : Tf) : Prop := ∀ z ∈ t.zl, z.nm.size ≤ maxLen ∧ ∀ p ∈ z.ps, p.size ≤ maxLen
set_option maxRecDepth 100000 in
theorem tar_of {H : Type} {enc : TypeId × Value → H} {w : World} {r : Reach} {b0 : Nat} {v : Value} {d : DataW H} {p : List MemPlace}
    (hv : Value.okWide Try.prog w r b0 39 v) (h : DataW.Trod enc Try.prog w 0 (fun _ => true) true 39 v d p) (hw : WL 39 d) : ∃ t : Tf, v = .agg t.cells ∧ TfN t ∧ TfR w t ∧ TfB t ∧ TfZ t := by
  have he : Try.prog.underlying 39 = some (.struct (Try.prog.fieldsOf 39)) := by kernel_rfl
  have hC : Try.prog.cellsOf 39 = 7 := by kernel_rfl
  obtain ⟨cs, rfl, hsz⟩ := okWide_struct he hv
  obtain ⟨fuel, hf⟩ := h
  have hf' : DataW.trod enc Try.prog w 0 (fun _ => true) true fuel 39 cs.toList = some (d, p) := hf
  obtain ⟨c0, c1, c2, c3, c4, c5, c6, hcs⟩ := list7 (cs := cs.toList) (by rw [Array.length_toList, hsz, hC])
  rw [hcs] at hf'
  obtain ⟨ys, n', hn', hy, hlen, hyl, hfl⟩ := DataW.trod_struct he hf'
  have h0 := hfl 0 _ rfl
  rw [List.getElem?_eq_getElem (show 0 < ys.length by rw [hyl]; decide)] at h0
  have h1 := hfl 1 _ rfl
  rw [List.getElem?_eq_getElem (show 1 < ys.length by rw [hyl]; decide)] at h1
  have h2 := hfl 2 _ rfl
  rw [List.getElem?_eq_getElem (show 2 < ys.length by rw [hyl]; decide)] at h2
  have h3 := hfl 3 _ rfl
  have e3 : ys[3]? = some (ys[3]'(by rw [hyl]; decide)) := List.getElem?_eq_getElem _
  rw [e3] at h3
  have h4 := hfl 4 _ rfl
  have e4 : ys[4]? = some (ys[4]'(by rw [hyl]; decide)) := List.getElem?_eq_getElem _
  rw [e4] at h4
  have h5 := hfl 5 _ rfl
  have e5 : ys[5]? = some (ys[5]'(by rw [hyl]; decide)) := List.getElem?_eq_getElem _
  rw [e5] at h5
  have h6 := hfl 6 _ rfl
  rw [List.getElem?_eq_getElem (show 6 < ys.length by rw [hyl]; decide)] at h6
  have hD : d = .agg (ys.map (·.1)) := congrArg Prod.fst hy
  rw [hD] at hw
  have hw3 : WL 34 (ys[3]'(by rw [hyl]; decide)).1 := WL.part he hw (j := 3) rfl (by rw [List.getElem?_map, e3]; rfl)
  have hw4 : WL 35 (ys[4]'(by rw [hyl]; decide)).1 := WL.part he hw (j := 4) rfl (by rw [List.getElem?_map, e4]; rfl)
  have hw5 : WL 36 (ys[5]'(by rw [hyl]; decide)).1 := WL.part he hw (j := 5) rfl (by rw [List.getElem?_map, e5]; rfl)
  obtain ⟨u0, rfl, s0⟩ := str_inV (v := c0) h0
  obtain ⟨u1, rfl⟩ := int_inV (v := c1) h1
  obtain ⟨u2, rfl⟩ := bool_inV (v := c2) h2
  have h3' : DataW.trod enc Try.prog w 0 (fun _ => true) true n' 34 [c3] = some _ := h3
  obtain ⟨ZA, zn, zc, rfl⟩ : ∃ A n c, c3 = .slice A n c := by
    rcases open_sl Try.underlying34 h3' with hq | ⟨a, l, c, _, _, _, _, hq, _⟩
    · exact ⟨none, 0, 0, by simpa using hq⟩
    · exact ⟨some a, l, c, by simpa using hq⟩
  obtain ⟨zl, z1, z2, z3, z4, z5⟩ := Zn.zns_of (A := ZA) (len := zn) (cap := zc) ⟨n', h3'⟩ hw3
  obtain ⟨BA, bn, bc, bl, rfl, b1, b2, b3, b4, b5⟩ := bds_in (v := c4) h4 hw4
  obtain ⟨RA, rn, rc, rl, rfl, r1, r2, r3, r4, r5⟩ := rts_in (v := c5) h5 hw5
  obtain ⟨DA, dn, dc, dl, rfl, d1, d2, d3, d4⟩ := dcs_in (v := c6) h6
  refine ⟨⟨u0, u1, u2, ZA, zn, zc, zl, BA, bn, bc, bl, RA, rn, rc, rl, DA, dn, dc, dl⟩, ?_, ⟨s0, z1, z2, z3, b3, b1, b2, r1, r2, r3, d1, d2, d3⟩, ⟨z4, b4, r4, d4⟩, ⟨fun z hz => ?_, fun b hb => ?_, fun r hr => (r5 r hr).1, fun r hr => (r5 r hr).2⟩, fun z hz => (z5 z hz).2⟩
  · congr 1
    exact Array.toList_inj.1 hcs
  · have := (z5 z hz).1; omega
  · have := b5 b hb; omega
end Go.Proofs.Ytolgfkkjbefecaa.Ck
