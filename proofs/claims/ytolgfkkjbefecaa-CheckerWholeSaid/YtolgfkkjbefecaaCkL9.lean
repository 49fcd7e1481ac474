/- 'append(s, xs...)', s the call's own, xs nil or not. A tariff without one of its discounts, and with a rate in front. Lists of discounts and rates put together anew, in memory. Walk of the law on a tariff with a discount removed and a rate in front. -/
import Derived.Test.YtolgfkkjbefecaaLawKit
import Derived.Maps.AppendAt
import Derived.Test.YtolgfkkjbefecaaCkCv
import Derived.Test.YtolgfkkjbefecaaCkTA
import Derived.Test.YtolgfkkjbefecaaCkL8
import Derived.Deep.RegionHeld3
namespace Go.Proofs.Ytolgfkkjbefecaa.Ap
open Go.RowKit Go.Proofs.Ytolgfkkjbefecaa

/-- 'append(s, xs...)', s the call's own, xs nil or not. -/
theorem wpList_append_any {P : Program} {w : World} {ops : Array Oper} {rest : List Oper} {o : Oper} {a : Act} {Q : Exit → Act → World → Prop} (hgd : o.guard = none) (s x : Operand) (t : TypeId)
    (ho : o.op = .call { callee := .builtin .append, args := #[s, x], argTypes := #[t, t] })
    (base : Nat) (e : TypeId) (i : TypeInfo) (z : Value) (size bytes : Nat) (ht : P.underlying t = some (.slice e)) (hi : P.info? e = some i) (hz : i.zero = some z)
    (hsize : i.size = size) (hby : i.bytes = bytes) (hzs : z.cells.size = size) (hsz : 0 < size)
    (v : Value) (n : Nat) (xs : List Value) (hs : a.eval s = v) (hown : w.ownsRow base e size v n xs)
    (A : Option Addr) (m c : Nat) (news : List Value) (hx : a.eval x = .slice A m c) (hl : news.length = m * size) (hA : A = none → m = 0) (hnews : ∀ ad, A = some ad → ∀ j u, news[j]? = some u → w.cell? (ad.add j) = some u) (h1 : ∀ u ∈ news, u.oneCell' = true)
    (h63 : n + m ≤ maxLen) (hbytes : (n + m) * bytes ≤ 140737488355328) (hbase : base ≤ w.heap.size)
    (h : ∀ v' w', w'.ownsRow base e size v' (n + m) (xs ++ news) → w.grownBy w' v.ownBlock → wpList P ops Q rest (a.put o.dst v') w') : wpList P ops Q (o :: rest) a w := by
  cases A with
  | some ad => exact wpList_append_own _ hgd s x t ho base e i z size bytes ht hi hz hsize hby hzs hsz v n xs hs hown ad m c news hx hl (hnews ad rfl) h1 h63 hbytes hbase (fun v' w' g1 g2 _ => h v' w' g1 g2)
  | none =>
    obtain rfl := hA rfl
    obtain rfl : news = [] := List.eq_nil_of_length_eq_zero (by simpa using hl)
    refine wpList_plain hgd fun K hK => ?_
    have hrun : (Builtin.append_ #[t, t] o.type #[v, .slice none 0 c]).run P w = .ok v w := by
      rcases hown.2 with ⟨rfl, rfl⟩ | ⟨g, cap, cur, rfl, hb, hg, hnc, hcm, hcs, htake⟩
      · simp [Builtin.append_, run_underlying ht, sizeOf, typeInfo, hi, Builtin.lenOf, Builtin.firstCells, loadCells, loadCellsFrom]
      · simp [Builtin.append_, run_underlying ht, sizeOf, typeInfo, hi, Builtin.lenOf, Builtin.firstCells, loadCells, loadCellsFrom, storeCells, hnc]
    unfold Oper.wp
    simp [execOp, ho, resolve, invoke, builtin, hs, hx, hrun, Result.andThen]
    exact hK _ _ (h v w (by simpa using hown) (World.grownBy.refl w _))
end Go.Proofs.Ytolgfkkjbefecaa.Ap
namespace Go.Proofs.Ytolgfkkjbefecaa.Ck
open Go Go.Lib Go.RowKit Go.Proofs.Ytolgfkkjbefecaa

/-- A list without its k-th. -/
def cut {α : Type} (l : List α) (k : Nat) : List α := l.take k ++ l.drop (k + 1)
theorem cut_len {α : Type} {l : List α} {k : Nat} (h : k < l.length) : (cut l k).length = l.length - 1 := by
  unfold cut; rw [List.length_append, List.length_take, List.length_drop]; omega
theorem cut_lo {α : Type} {l : List α} {k i : Nat} {d : α} (h : k < l.length) (hi : i < k) : (cut l k).getD i d = l.getD i d := by
  unfold cut
  rw [List.getD_eq_getElem?_getD, List.getD_eq_getElem?_getD, List.getElem?_append_left (by rw [List.length_take]; omega), List.getElem?_take_of_lt hi]
theorem cut_hi {α : Type} {l : List α} {k i : Nat} {d : α} (h : k < l.length) (hi : k ≤ i) : (cut l k).getD i d = l.getD (i + 1) d := by
  unfold cut
  rw [List.getD_eq_getElem?_getD, List.getD_eq_getElem?_getD, List.getElem?_append_right (by rw [List.length_take]; omega), List.length_take, List.getElem?_drop, show k + 1 + (i - min k l.length) = i + 1 by omega]
theorem cut_take {α : Type} {l : List α} {k i : Nat} (h : k < l.length) (hi : i < k) : (cut l k).take i = l.take i := by
  unfold cut
  rw [List.take_append_of_le_length (by rw [List.length_take]; omega), List.take_take, Nat.min_eq_left (by omega)]
theorem cut_sub {α : Type} {l : List α} {k i : Nat} {x : α} (h : k < l.length) (hi : k ≤ i) (hx : x ∈ (cut l k).take i) : x ∈ l.take (i + 1) := by
  obtain ⟨j, hj, rfl⟩ := List.getElem_of_mem hx
  have hj2 := hj
  rw [List.length_take, cut_len h] at hj
  rw [List.getElem_take]
  have h0 : (cut l k)[j]'(by rw [cut_len h]; omega) = (cut l k).getD j ((cut l k)[j]'(by rw [cut_len h]; omega)) := by
    rw [List.getD_eq_getElem?_getD, List.getElem?_eq_getElem (by rw [cut_len h]; omega)]; rfl
  rw [h0]
  by_cases hlt : j < k
  · rw [cut_lo h hlt, List.getD_eq_getElem?_getD, List.getElem?_eq_getElem (show j < l.length by omega)]
    exact List.mem_take_iff_getElem.2 ⟨j, by omega, rfl⟩
  · rw [cut_hi h (by omega), List.getD_eq_getElem?_getD, List.getElem?_eq_getElem (show j + 1 < l.length by omega)]
    exact List.mem_take_iff_getElem.2 ⟨j + 1, by omega, rfl⟩

theorem dcE_name {l : List Dc} {k : Nat} (h : dcE l k = 0) : ((l.take k).any fun e => decide (e.nm = (l.getD k dc0).nm)) = false := by
  unfold dcE dcV at h
  split at h
  · exact absurd h (by decide)
  · split at h
    · exact absurd h (by decide)
    · rename_i h2; simpa using h2
theorem dcE_as {l l' : List Dc} {k i : Nat} (hd : l'.getD i dc0 = l.getD k dc0) (hn : ((l'.take i).any fun e => decide (e.nm = (l.getD k dc0).nm)) = ((l.take k).any fun e => decide (e.nm = (l.getD k dc0).nm))) : dcE l' i = dcE l k := by
  unfold dcE; rw [hd, hn]
theorem dcE_cut {l : List Dc} {k i : Nat} (hk : k < l.length) (hi : i + 1 < l.length) (h : ∀ j, j < l.length → dcE l j = 0) : dcE (cut l k) i = 0 := by
  by_cases hlt : i < k
  · rw [dcE_as (l := l) (k := i) (cut_lo hk hlt) (by rw [cut_take hk hlt])]; exact h i (by omega)
  · rw [dcE_as (l := l) (k := i + 1) (cut_hi hk (by omega)) ?_]
    · exact h (i + 1) hi
    · have h0 := dcE_name (h (i + 1) hi)
      rw [h0]
      refine Bool.eq_false_iff.2 fun h1 => ?_
      obtain ⟨x, hx, hp⟩ := List.any_eq_true.1 h1
      exact absurd (List.any_eq_true.2 ⟨x, cut_sub hk (by omega) hx, hp⟩) (by rw [h0]; decide)

/-- The rate that CheckerWhole puts in front. -/
def rtF (kind : Int) : Rt := ⟨kind, ⟨#[]⟩, ⟨#[]⟩, 0, [⟨0, 1, 0⟩]⟩
theorem rtE_front {zl : List Zn.Zm} {bl : List Bd} {kind : Int} (h : inB kind 1 4 = true) : rtE zl bl (rtF kind) = 0 := by
  have hs : stepsE (rtF kind).st = 0 := show stepsE [⟨0, 1, 0⟩] = 0 by decide
  unfold rtE rtV
  rw [hs, show (rtF kind).kd = kind from rfl, h]
  have hz : zkn zl (rtF kind).zn = true := by unfold zkn; rw [show (rtF kind).zn = ⟨#[]⟩ from rfl, emp_iff]; rfl
  have hb : bkn bl (rtF kind).bn = true := by unfold bkn; rw [show (rtF kind).bn = ⟨#[]⟩ from rfl, emp_iff]; rfl
  rw [hz, hb, show inB (rtF kind).su 0 1125899906842624 = true from show inB 0 0 1125899906842624 = true by decide]
  rfl
theorem rates_front {zl : List Zn.Zm} {bl : List Bd} {rl : List Rt} {kind : Int} {n : Nat} (hk : inB kind 1 4 = true) (h : fstN (fun k => rtE zl bl (rl.getD k rt0)) 0 n = 0) : fstN (fun k => rtE zl bl ((rtF kind :: rl).getD k rt0)) 0 (n + 1) = 0 := by
  rw [fstN_zero] at h ⊢
  intro i _ hi
  cases i with
  | zero => exact rtE_front hk
  | succ j => exact h j (by omega) (by omega)

theorem tarV_zero {vn vf : Bool} {ze be re de : Int} (h : tarV vn vf ze be re de = 0) : vn = true ∧ vf = true ∧ ze = 0 ∧ be = 0 ∧ re = 0 ∧ de = 0 := by
  unfold tarV at h
  cases vn <;> cases vf <;> simp only [reduceIte, reduceCtorEq] at h <;> try exact absurd h (by decide)
  by_cases h1 : ze = 0 <;> by_cases h2 : be = 0 <;> by_cases h3 : re = 0 <;> simp_all
theorem tarV_of {vn vf : Bool} {ze be re de : Int} (h : vn = true ∧ vf = true ∧ ze = 0 ∧ be = 0 ∧ re = 0 ∧ de = 0) : tarV vn vf ze be re de = 0 := by
  obtain ⟨rfl, rfl, rfl, rfl, rfl, rfl⟩ := h; rfl
/-- A tariff with other rates and discounts. -/
def Tf.with (t : Tf) (RA : Option Addr) (rn rc : Nat) (rl : List Rt) (DA : Option Addr) (dn dc : Nat) (dl : List Dc) : Tf := { t with RA := RA, rn := rn, rc := rc, rl := rl, DA := DA, dn := dn, dc := dc, dl := dl }
theorem tarE_with {t : Tf} {RA DA : Option Addr} {rc dn dc : Nat} {dl : List Dc} {kind : Int} (h : tarE t = 0) (hr : t.rn ≤ 60) (hk : inB kind 1 4 = true) (hd : ∀ e, discE t = e → e = 0 → discE (t.with RA (t.rn + 1) rc (rtF kind :: t.rl) DA dn dc dl) = 0) :
    tarE (t.with RA (t.rn + 1) rc (rtF kind :: t.rl) DA dn dc dl) = 0 := by
  obtain ⟨h1, h2, h3, h4, h5, h6⟩ := tarV_zero h
  refine tarV_of ⟨h1, h2, h3, h4, ?_, hd _ rfl h6⟩
  unfold ratesE at h5 ⊢
  rw [if_neg (by omega)] at h5
  rw [if_neg (by show ¬ 64 < t.rn + 1; omega)]
  exact rates_front hk h5
/-- With all its discounts. -/
theorem tarE_all {t : Tf} {RA : Option Addr} {rc : Nat} {kind : Int} (h : tarE t = 0) (hr : t.rn ≤ 60) (hk : inB kind 1 4 = true) : tarE (t.with RA (t.rn + 1) rc (rtF kind :: t.rl) t.DA t.dn t.dc t.dl) = 0 :=
  tarE_with h hr hk fun e h1 h2 => h1.trans h2
/-- Without the k-th. -/
theorem tarE_cut {t : Tf} {RA DA : Option Addr} {rc dc : Nat} {kind : Int} {k : Nat} (h : tarE t = 0) (hr : t.rn ≤ 60) (hk : inB kind 1 4 = true) (hn : t.dl.length = t.dn) (hd : k < t.dn) : tarE (t.with RA (t.rn + 1) rc (rtF kind :: t.rl) DA (t.dn - 1) dc (cut t.dl k)) = 0 := by
  refine tarE_with h hr hk fun e h1 h2 => ?_
  subst h1
  unfold discE at h2 ⊢
  by_cases h64 : 64 < t.dn
  · rw [if_pos h64] at h2; exact absurd h2 (by decide)
  rw [if_neg h64] at h2
  rw [if_neg (by show ¬ 64 < t.dn - 1; omega)]
  rw [fstN_zero] at h2 ⊢
  intro i _ hi
  exact dcE_cut (by omega) (by simp only [Tf.with] at hi; omega) fun j hj => h2 j (by omega) (by omega)
theorem covE_front {t : Tf} {RA DA : Option Addr} {rn rc dn dc : Nat} {dl : List Dc} {kind : Int} (hk : inB kind 1 4 = true) : covE (t.with RA rn rc (rtF kind :: t.rl) DA dn dc dl) kind = true := by
  unfold covE
  rw [hk]
  have e : keys kind (rtF kind :: t.rl) = [] :: keys kind t.rl := by
    unfold keys
    rw [List.filter_cons_of_pos (by unfold anyZ; rw [show (rtF kind).kd = kind from rfl, show (rtF kind).zn = ⟨#[]⟩ from rfl, emp_iff]; simp)]
    rfl
  rw [show (t.with RA rn rc (rtF kind :: t.rl) DA dn dc dl).rl = rtF kind :: t.rl from rfl, e]
  have hb : ∀ b, bare ([] :: keys kind t.rl) b = false := fun b => by unfold bare isK; simp
  rw [show ((t.with RA rn rc (rtF kind :: t.rl) DA dn dc dl).bl.any (bare ([] :: keys kind t.rl))) = false from Bool.eq_false_iff.2 fun h1 => by
    obtain ⟨x, _, hp⟩ := List.any_eq_true.1 h1
    rw [hb x] at hp; exact absurd hp (by decide)]
  rfl
theorem covE_no {t : Tf} : covE t 0 = false := by
  unfold covE; rw [show inB 0 1 4 = false by decide]; rfl
end Go.Proofs.Ytolgfkkjbefecaa.Ck
namespace Go.Proofs.Ytolgfkkjbefecaa.Ck
open Go Go.Lib Go.RowKit Go.Proofs.Ytolgfkkjbefecaa Go.Maps

theorem dcInfo : (Try.prog.info? 60).map (fun i => (i.zero, i.size, i.bytes)) = some (some (.agg #[.string ⟨#[]⟩, .int .i64 0, .int .i64 0, .string ⟨#[]⟩, .slice none 0 0, .int .i64 0]), 6, 80) := by kernel_rfl
theorem rtInfo : (Try.prog.info? 46).map (fun i => (i.zero, i.size, i.bytes)) = some (some (.agg #[.int .i64 0, .string ⟨#[]⟩, .string ⟨#[]⟩, .int .i64 0, .slice none 0 0]), 5, 72) := by kernel_rfl
theorem own_litD (w : World) : (w.alloc (.cells #[] 60)).ownsRow w.heap.size 60 6 (.slice (some ⟨w.heap.size, 0, none⟩) 0 0) 0 [] :=
  World.ownsRow_lit w #[] 0 (Nat.le_refl _) (by decide) rfl
theorem addr_block (a : Addr) (n : Nat) : (a.add n).block = a.block := by unfold Addr.add; split <;> rfl
/-- An append to a list of the call's own, at a step of a region that draws its order. -/
theorem step_append_own {P : Program} {w : World} {ops : Array Oper} {o : Oper} {a : Act} {K : Act → World → Prop} {Q : Exit → Act → World → Prop} {E : Prop} (hgd : o.guard = none) (s x : Operand) (t : TypeId)
    (ho : o.op = .call { callee := .builtin .append, args := #[s, x], argTypes := #[t, t] })
    (base : Nat) (e : TypeId) (i : TypeInfo) (z : Value) (size bytes : Nat) (ht : P.underlying t = some (.slice e)) (hi : P.info? e = some i) (hz : i.zero = some z)
    (hsize : i.size = size) (hby : i.bytes = bytes) (hzs : z.cells.size = size) (hsz : 0 < size)
    (v : Value) (n : Nat) (xs : List Value) (hs : a.eval s = v) (hown : w.ownsRow base e size v n xs)
    (ad : Addr) (m c : Nat) (news : List Value) (hx : a.eval x = .slice (some ad) m c) (hl : news.length = m * size) (hnews : ∀ j u, news[j]? = some u → w.cell? (ad.add j) = some u) (h1 : ∀ u ∈ news, u.oneCell' = true)
    (h63 : n + m ≤ maxLen) (hbytes : (n + m) * bytes ≤ 140737488355328) (hbase : base ≤ w.heap.size)
    (h : ∀ v' w', w'.ownsRow base e size v' (n + m) (xs ++ news) → w.grownBy w' v.ownBlock → K (a.put o.dst v') w') :
    if Region.wanted o (yielded ops a.tmps) = true then Oper.wp P o a w K Q else E := by
  have hw : Region.wanted o (yielded ops a.tmps) = true := by simp [Region.wanted, hgd]
  rw [if_pos hw]
  exact wp_append_own w s x t ho base e i z size bytes ht hi hz hsize hby hzs hsz v n xs hs hown ad m c news hx hl hnews h1 h63 hbytes hbase fun v' w' g1 g2 _ => h v' w' g1 g2
/-- A list of the call's own is a slice, nil or not. -/
theorem own_formA {w : World} {base e size n : Nat} {v : Value} {xs : List Value} (h : w.ownsRow base e size v n xs) : ∃ Z c, v = .slice Z n c ∧ n ≤ c ∧ c ≤ maxLen ∧ ((Z = none ∧ n = 0) ∨ ∃ z, Z = some ⟨z, 0, none⟩ ∧ base ≤ z ∧ z < w.heap.size ∧ ∀ j u, xs[j]? = some u → w.cell? ⟨z, j, none⟩ = some u) := by
  rcases h.2 with ⟨rfl, rfl⟩ | ⟨g, cap, cur, rfl, h1, h2, h3, h4, h5, h6⟩
  · exact ⟨none, 0, rfl, Nat.le_refl _, by decide, .inl ⟨rfl, rfl⟩⟩
  · refine ⟨_, cap, rfl, h3, h4, .inr ⟨g, rfl, h1, (Array.getElem?_eq_some_iff.1 h2).1, fun j u hj => ?_⟩⟩
    have := h.cells (g := g) rfl j u hj
    rw [add_none, Nat.zero_add] at this
    exact this
theorem own_formC {w : World} {base e size n : Nat} {v : Value} {xs : List Value} (h : w.ownsRow base e size v n xs) (hn : 0 < n) : ∃ z c, v = .slice (some ⟨z, 0, none⟩) n c ∧ n ≤ c ∧ c ≤ maxLen ∧ base ≤ z ∧ z < w.heap.size ∧ ∀ j u, xs[j]? = some u → w.cell? ⟨z, j, none⟩ = some u := by
  obtain ⟨Z, c, e, h1, h2, h3⟩ := own_formA h
  rcases h3 with ⟨_, h0⟩ | ⟨z, rfl, h3⟩
  · omega
  · exact ⟨z, c, e, h1, h2, h3⟩
theorem own_litR (w : World) (kind : Int) (S : Option Addr) : (w.alloc (.cells #[.int .i64 kind, .string ⟨#[]⟩, .string ⟨#[]⟩, .int .i64 0, .slice S 1 1] 46)).ownsRow w.heap.size 46 5 (.slice (some ⟨w.heap.size, 0, none⟩) 1 1) 1 [.int .i64 kind, .string ⟨#[]⟩, .string ⟨#[]⟩, .int .i64 0, .slice S 1 1] :=
  World.ownsRow_lit w #[.int .i64 kind, .string ⟨#[]⟩, .string ⟨#[]⟩, .int .i64 0, .slice S 1 1] 1 (Nat.le_refl _) (by decide) rfl
theorem SpR.at_ {w : World} {y : Nat} (h : Blk w y 44 #[.int .i64 0, .int .i64 1, .int .i64 0]) : SpR w (some ⟨y, 0, none⟩) [⟨0, 1, 0⟩] := fun k hk => by
  match k, hk with
  | 0, _ => exact ⟨y, 0, rfl, h.lt, h.cell 0, h.cell 1, h.cell 2⟩
/-- The cells of a slice of discounts. -/
theorem DcR.row {w : World} {b off : Nat} {l : List Dc} (h : DcR w (some ⟨b, off, none⟩) l) : ∃ cs : List Value, cs.length = l.length * 6 ∧ (∀ j u, cs[j]? = some u → w.cell? ⟨b, off + j, none⟩ = some u) ∧ ∀ u ∈ cs, u.oneCell' = true := by
  have hc : ∀ j, j < l.length * 6 → ∃ v : Value, w.cell? ⟨b, off + j, none⟩ = some v ∧ v.oneCell' = true := by
    intro j hj
    obtain ⟨b', off', S, c, d, e1, _, g0, g1, g2, g3, g4, g5, _⟩ := h (j / 6) (by omega)
    cases e1
    have hr : j % 6 = 0 ∨ j % 6 = 1 ∨ j % 6 = 2 ∨ j % 6 = 3 ∨ j % 6 = 4 ∨ j % 6 = 5 := by omega
    rcases hr with hr | hr | hr | hr | hr | hr
    · exact ⟨_, by rw [← g0, show off + j / 6 * 6 = off + j by omega], rfl⟩
    · exact ⟨_, by rw [← g1, show off + j / 6 * 6 + 1 = off + j by omega], rfl⟩
    · exact ⟨_, by rw [← g2, show off + j / 6 * 6 + 2 = off + j by omega], rfl⟩
    · exact ⟨_, by rw [← g3, show off + j / 6 * 6 + 3 = off + j by omega], rfl⟩
    · exact ⟨_, by rw [← g4, show off + j / 6 * 6 + 4 = off + j by omega], rfl⟩
    · exact ⟨_, by rw [← g5, show off + j / 6 * 6 + 5 = off + j by omega], rfl⟩
  refine ⟨(List.range (l.length * 6)).map fun j => (w.cell? ⟨b, off + j, none⟩).getD (.int .i64 0), by simp, fun j u hj => ?_, fun u hu => ?_⟩
  · rw [List.getElem?_map] at hj
    have hlt : j < l.length * 6 := by
      rcases Nat.lt_or_ge j (l.length * 6) with h | h
      · exact h
      · rw [List.getElem?_eq_none (by simpa using h)] at hj; cases hj
    rw [List.getElem?_range hlt] at hj
    obtain ⟨v, hv, _⟩ := hc j hlt
    rw [hv]
    rw [Option.map_some, hv] at hj
    exact hj
  · obtain ⟨j, hj, rfl⟩ := List.mem_map.1 hu
    obtain ⟨v, hv, h1⟩ := hc j (by simpa using hj)
    simp only [hv]
    exact h1
/-- The cells of a slice of rates, nil or not. -/
theorem RtR.row {w : World} {A : Option Addr} {l : List Rt} (h : RtR w A l) : ∃ cs : List Value, cs.length = l.length * 5 ∧ (∀ ad, A = some ad → ∀ j u, cs[j]? = some u → w.cell? (ad.add j) = some u) ∧ (∀ u ∈ cs, u.oneCell' = true) ∧ (A = none → l.length = 0) := by
  rcases Nat.eq_zero_or_pos l.length with h0 | h0
  · exact ⟨[], by rw [h0]; rfl, fun _ _ j u hj => by simp at hj, (fun u hu => by cases hu), fun _ => h0⟩
  obtain ⟨b, off, _, _, hA, _⟩ := h 0 h0
  subst hA
  have hc : ∀ j, j < l.length * 5 → ∃ v : Value, w.cell? ⟨b, off + j, none⟩ = some v ∧ v.oneCell' = true := by
    intro j hj
    obtain ⟨b', off', S, c, e1, _, g0, g1, g2, g3, g4, _⟩ := h (j / 5) (by omega)
    cases e1
    have hr : j % 5 = 0 ∨ j % 5 = 1 ∨ j % 5 = 2 ∨ j % 5 = 3 ∨ j % 5 = 4 := by omega
    rcases hr with hr | hr | hr | hr | hr
    · exact ⟨_, by rw [← g0, show off + j / 5 * 5 = off + j by omega], rfl⟩
    · exact ⟨_, by rw [← g1, show off + j / 5 * 5 + 1 = off + j by omega], rfl⟩
    · exact ⟨_, by rw [← g2, show off + j / 5 * 5 + 2 = off + j by omega], rfl⟩
    · exact ⟨_, by rw [← g3, show off + j / 5 * 5 + 3 = off + j by omega], rfl⟩
    · exact ⟨_, by rw [← g4, show off + j / 5 * 5 + 4 = off + j by omega], rfl⟩
  refine ⟨(List.range (l.length * 5)).map fun j => (w.cell? ⟨b, off + j, none⟩).getD (.int .i64 0), by simp, fun ad ha j u hj => ?_, fun u hu => ?_, fun e => by cases e⟩
  · cases ha
    rw [List.getElem?_map] at hj
    have hlt : j < l.length * 5 := by
      rcases Nat.lt_or_ge j (l.length * 5) with h | h
      · exact h
      · rw [List.getElem?_eq_none (by simpa using h)] at hj; cases hj
    rw [List.getElem?_range hlt] at hj
    obtain ⟨v, hv, _⟩ := hc j hlt
    rw [add_none, hv]
    rw [Option.map_some, hv] at hj
    exact hj
  · obtain ⟨j, hj, rfl⟩ := List.mem_map.1 hu
    obtain ⟨v, hv, h1⟩ := hc j (by simpa using hj)
    simp only [hv]
    exact h1
/-- Discounts moved to another place. -/
theorem DcR.moved {w w' : World} {b off z : Nat} {l l' : List Dc} (h : DcR w (some ⟨b, off, none⟩) l) (hb : Below w.heap.size w w') (hz : z < w'.heap.size) (f : Nat → Nat)
    (hf : ∀ i, i < l'.length → f i < l.length ∧ l'.getD i dc0 = l.getD (f i) dc0 ∧ ∀ c, c < 6 → w'.cell? ⟨z, i * 6 + c, none⟩ = w.cell? ⟨b, off + f i * 6 + c, none⟩) : DcR w' (some ⟨z, 0, none⟩) l' := by
  intro i hi
  obtain ⟨h1, h2, h3⟩ := hf i hi
  obtain ⟨b', off', S, c, d, e, q, g0, g1, g2, g3, g4, g5, u1, u2, u3, u4⟩ := h (f i) h1
  cases e
  rw [h2]
  refine ⟨z, 0, S, c, d, rfl, hz, ?_, ?_, ?_, ?_, ?_, ?_, u1, u2, u3.below hb, u4⟩ <;> rw [Nat.zero_add]
  · rw [← g0]; exact h3 0 (by decide)
  · rw [← g1]; exact h3 1 (by decide)
  · rw [← g2]; exact h3 2 (by decide)
  · rw [← g3]; exact h3 3 (by decide)
  · rw [← g4]; exact h3 4 (by decide)
  · rw [← g5]; exact h3 5 (by decide)
/-- Rates moved behind another. -/
theorem RtR.cons {w w' : World} {A : Option Addr} {z c : Nat} {S : Option Addr} {r : Rt} {l : List Rt} (h : RtR w A l) (hb : Below w.heap.size w w') (hz : z < w'.heap.size)
    (g0 : w'.cell? ⟨z, 0, none⟩ = some (.int .i64 r.kd)) (g1 : w'.cell? ⟨z, 1, none⟩ = some (.string r.zn)) (g2 : w'.cell? ⟨z, 2, none⟩ = some (.string r.bn)) (g3 : w'.cell? ⟨z, 3, none⟩ = some (.int .i64 r.su)) (g4 : w'.cell? ⟨z, 4, none⟩ = some (.slice S r.st.length c))
    (hc : r.st.length ≤ c) (hm : c ≤ maxLen) (hS : SpR w' S r.st)
    (hf : ∀ b off, A = some ⟨b, off, none⟩ → ∀ i, i < l.length → ∀ c, c < 5 → w'.cell? ⟨z, (i + 1) * 5 + c, none⟩ = w.cell? ⟨b, off + i * 5 + c, none⟩) : RtR w' (some ⟨z, 0, none⟩) (r :: l) := by
  intro k hk
  cases k with
  | zero => exact ⟨z, 0, S, c, rfl, hz, g0, g1, g2, g3, g4, hc, hm, hS⟩
  | succ i =>
    have hi : i < l.length := by simpa using hk
    obtain ⟨b, off, S', c', e, q, g0, g1, g2, g3, g4, u1, u2, u3⟩ := h i hi
    have h3 := hf b off e i hi
    rw [show (r :: l).getD (i + 1) rt0 = l.getD i rt0 from rfl]
    refine ⟨z, 0, S', c', rfl, hz, ?_, ?_, ?_, ?_, ?_, u1, u2, u3.below hb rfl⟩ <;> rw [Nat.zero_add]
    · rw [← g0]; exact h3 0 (by decide)
    · rw [← g1]; exact h3 1 (by decide)
    · rw [← g2]; exact h3 2 (by decide)
    · rw [← g3]; exact h3 3 (by decide)
    · rw [← g4]; exact h3 4 (by decide)
/-- The discounts without the k-th, laid anew. -/
theorem DcR.cut {w w' : World} {b off z k : Nat} {l : List Dc} {cs : List Value} (h : DcR w (some ⟨b, off, none⟩) l) (hk : k < l.length) (hb : Below w.heap.size w w') (hz : z < w'.heap.size)
    (hl : cs.length = l.length * 6) (hc : ∀ j u, cs[j]? = some u → w.cell? ⟨b, off + j, none⟩ = some u)
    (hn : ∀ j u, (cs.take (k * 6) ++ cs.drop ((k + 1) * 6))[j]? = some u → w'.cell? ⟨z, j, none⟩ = some u) : DcR w' (some ⟨z, 0, none⟩) (cut l k) := by
  refine DcR.moved h hb hz (fun i => if i < k then i else i + 1) fun i hi => ?_
  rw [cut_len hk] at hi
  refine ⟨by show (if i < k then i else i + 1) < _; split <;> omega, ?_, fun c hc6 => ?_⟩
  · by_cases hlt : i < k
    · simp only [if_pos hlt]; exact cut_lo hk hlt
    · simp only [if_neg hlt]; exact cut_hi hk (by omega)
  · by_cases hlt : i < k
    · simp only [if_pos hlt]
      have hj : i * 6 + c < cs.length := by omega
      have e1 := hc (i * 6 + c) cs[i * 6 + c] (List.getElem?_eq_getElem hj)
      rw [show off + i * 6 + c = off + (i * 6 + c) by omega, e1]
      refine hn _ _ ?_
      rw [List.getElem?_append_left (by rw [List.length_take]; omega), List.getElem?_take_of_lt (by omega), List.getElem?_eq_getElem hj]
    · simp only [if_neg hlt]
      have hj : (i + 1) * 6 + c < cs.length := by omega
      have e1 := hc ((i + 1) * 6 + c) cs[(i + 1) * 6 + c] (List.getElem?_eq_getElem hj)
      rw [show off + (i + 1) * 6 + c = off + ((i + 1) * 6 + c) by omega, e1]
      refine hn _ _ ?_
      have hm : min (k * 6) cs.length = k * 6 := by omega
      rw [List.getElem?_append_right (by rw [List.length_take]; omega), List.length_take, hm, List.getElem?_drop, show (k + 1) * 6 + (i * 6 + c - k * 6) = (i + 1) * 6 + c by omega, List.getElem?_eq_getElem hj]
/-- The rates with one in front, laid anew. -/
theorem RtR.front {w w' : World} {A : Option Addr} {z y : Nat} {kind : Int} {l : List Rt} {cs : List Value} (h : RtR w A l) (hb : Below w.heap.size w w') (hz : z < w'.heap.size) (hy : Blk w' y 44 #[.int .i64 0, .int .i64 1, .int .i64 0])
    (hl : cs.length = l.length * 5) (hc : ∀ ad, A = some ad → ∀ j u, cs[j]? = some u → w.cell? (ad.add j) = some u)
    (hn : ∀ j u, ([.int .i64 kind, .string ⟨#[]⟩, .string ⟨#[]⟩, .int .i64 0, .slice (some ⟨y, 0, none⟩) 1 1] ++ cs)[j]? = some u → w'.cell? ⟨z, j, none⟩ = some u) : RtR w' (some ⟨z, 0, none⟩) (rtF kind :: l) := by
  refine RtR.cons (r := rtF kind) (S := some ⟨y, 0, none⟩) (c := 1) h hb hz (hn 0 _ rfl) (hn 1 _ rfl) (hn 2 _ rfl) (hn 3 _ rfl) (hn 4 _ rfl) (Nat.le_refl 1) (by decide) (SpR.at_ hy) fun b off hA i hi c hc5 => ?_
  have hj : i * 5 + c < cs.length := by omega
  have e1 := hc _ hA (i * 5 + c) cs[i * 5 + c] (List.getElem?_eq_getElem hj)
  rw [add_none] at e1
  rw [show off + i * 5 + c = off + (i * 5 + c) by omega, e1]
  refine hn _ _ ?_
  rw [List.getElem?_append_right (by simp; omega), show (i + 1) * 5 + c - [Value.int .i64 kind, .string ⟨#[]⟩, .string ⟨#[]⟩, .int .i64 0, .slice (some ⟨y, 0, none⟩) 1 1].length = i * 5 + c by simp; omega, List.getElem?_eq_getElem hj]
end Go.Proofs.Ytolgfkkjbefecaa.Ck
namespace Go.Proofs.Ytolgfkkjbefecaa
open Go.RowKit Ck Go.Lib

set_option maxRecDepth 100000 in
set_option maxHeartbeats 16000000 in
theorem walkCheckerWhole (t : Tf) (a kd : Int) (w : World) (hN : TfN t) (hT : TfR w t) (hB : TfB t) (hZ : TfZ t) (ha : (Lit.int .u8 a).wf = true) (hk : (Lit.int .u8 kd).wf = true) :
    Calls Try.prog 9 #[.agg t.cells, .int .u8 a, .int .u8 kd] w fun e w' => e = .returned (.bool true) ∧ Below w.heap.size w w' := by
  obtain ⟨W1, hW1⟩ : ∃ W, w.alloc (.cells t.cells 39) = W := ⟨_, rfl⟩
  obtain ⟨g, hg⟩ : ∃ g, w.heap.size = g := ⟨_, rfl⟩
  have hbk : Blk W1 g 39 t.cells := hW1 ▸ hg ▸ Blk.new w _ _
  have hb1 : Below w.heap.size w W1 := hW1 ▸ below_one w _
  have HB1 := Lib.hid hb1; have HBK := Lib.hid hbk
  have HT := Lib.hid (hT.below hb1)
  have HSM := Lib.hid (smallT_any t W1 hN HT.out hB)
  obtain ⟨tv, htv⟩ : ∃ v, tarE t = v := ⟨_, rfl⟩
  have HTV := Lib.hid htv
  have HC1 := Lib.hid (fun (W : World) (hF : Zn.Fit t.zl) (h : TfR W t) => tariff_is htv W hN hF h)
  have HZ := Lib.hid hZ
  have HN := Lib.hid hN; have HTB := Lib.hid hB
  obtain ⟨ga0, ga1⟩ := u8_bounds ha
  obtain ⟨gk0, gk1⟩ := u8_bounds hk
  obtain ⟨tnm, tfr, tsp, ZA, zln, zcp, zl, BA, bln, bcp, bl, RA, rn, rc, rl, DA, dn, dc, dl⟩ := t
  simp only [Tf.cells] at HBK hW1 HSM HC1 ⊢
  obtain ⟨a0, a1, a2, a3, a4, a5, a6⟩ := seven HBK.out
  clear hN hT hB hZ hbk hb1 htv ha hk
  go_enter Try.func9, Try.ntmps9
  go_wp2_with fail
  refine HSM.out.mono ?_
  rintro e w1 ⟨v, rfl, hv, hb1⟩
  have HBX := Lib.hid hb1
  clear hb1 a0 a1 a2 a3 a4 a5 a6
  obtain ⟨a0, a1, a2, a3, a4, a5, a6⟩ := seven (HBK.out.below HBX.out HBK.out.lt)
  cases v
  · clear hv
    go_wp2_with (go_at_call 11; (with_reducible refine (awake_any _).mono ?_); rintro e w3 ⟨rfl, hb3⟩; have HB3 := Lib.hid (HBX.out.trans (hb3.mono HBX.out.size)); clear hb3)
    go_ret
    exact ⟨rfl, HB1.out.trans (HB3.out.mono HB1.out.size)⟩
  have hF := Lib.hid (fit_of HZ.out (hv rfl).1)
  have HV := Lib.hid (hv rfl)
  clear hv
  by_cases h60 : 60 < rn
  · have d60 : decide ((60 : Int) < (rn : Int)) = true := decide_eq_true (by omega)
    go_wp2_with (go_at_call 11; (with_reducible refine (awake_any _).mono ?_); rintro e w3 ⟨rfl, hb3⟩; have HB3 := Lib.hid (HBX.out.trans (hb3.mono HBX.out.size)); clear hb3)
    go_ret
    exact ⟨rfl, HB1.out.trans (HB3.out.mono HB1.out.size)⟩
  have d60 : decide ((60 : Int) < (rn : Int)) = false := decide_eq_false (by omega)
  have HT1 := Lib.hid (HT.out.below HBX.out)
  by_cases hz : tv ≠ 0
  · have dz : (tv != 0) = true := by rw [bne_iff_ne]; exact hz
    clear hz
    go_wp2_with (first
      | (go_at_call 17; (with_reducible refine (HC1.out _ hF.out HT1.out).mono ?_); rintro e w2 ⟨rfl, hb2⟩; have HB2 := Lib.hid (HBX.out.trans (hb2.mono HBX.out.size)); clear hb2)
      | (go_at_call 11; (with_reducible refine (awake_any _).mono ?_); rintro e w3 ⟨rfl, hb3⟩; have HB3 := Lib.hid (HB2.out.trans (hb3.mono HB2.out.size)); clear hb3))
    go_ret
    exact ⟨rfl, HB1.out.trans (HB3.out.mono HB1.out.size)⟩
  obtain rfl : tv = 0 := Classical.not_not.1 hz
  clear hz
  go_upto_region 4 with (go_at_call 17; (with_reducible refine (HC1.out _ hF.out HT1.out).mono ?_); rintro e w2 ⟨rfl, hb2⟩; have HB2 := Lib.hid (HBX.out.trans (hb2.mono HBX.out.size)); clear hb2 a0 a1 a2 a3 a4 a5 a6; obtain ⟨a0, a1, a2, a3, a4, a5, a6⟩ := seven (HBK.out.below HB2.out HBK.out.lt))
  obtain ⟨x, hx⟩ : ∃ x, w2.heap.size = x := ⟨_, rfl⟩
  have hx2 := Blk.new w2 39 #[.string tnm, .int .i64 tfr, .bool tsp, .slice ZA zln zcp, .slice BA bln bcp, .slice RA rn rc, .slice DA dn dc]
  have hb3 : Below W1.heap.size W1 (w2.alloc (.cells #[.string tnm, .int .i64 tfr, .bool tsp, .slice ZA zln zcp, .slice BA bln bcp, .slice RA rn rc, .slice DA dn dc] 39)) := HB2.out.alloc HB2.out.size _
  have hxs : (w2.alloc (.cells #[.string tnm, .int .i64 tfr, .bool tsp, .slice ZA zln zcp, .slice BA bln bcp, .slice RA rn rc, .slice DA dn dc] 39)).heap.size = x + 1 := by simp [hx]
  have hgx : g < x := by have := HBK.out.lt; have := HB2.out.size; omega
  have hWx : W1.heap.size ≤ x := by have := HB2.out.size; omega
  rw [hx] at hx2 ⊢
  generalize w2.alloc (.cells #[.string tnm, .int .i64 tfr, .bool tsp, .slice ZA zln zcp, .slice BA bln bcp, .slice RA rn rc, .slice DA dn dc] 39) = L at hx2 hb3 hxs ⊢
  have HX2 := Lib.hid hx2; have HB3 := Lib.hid hb3; have HXS := Lib.hid hxs; have HGX := Lib.hid hgx; have HWX := Lib.hid hWx
  have HT3 := Lib.hid (HT.out.below hb3)
  clear a0 a1 a2 a3 a4 a5 a6 hx2 hb3 hxs hgx hWx hx
  obtain ⟨a0, a1, a2, a3, a4, a5, a6⟩ := seven (HBK.out.below HB3.out HBK.out.lt)
  have hdl : dl.length = dn := HN.out.dl
  have hdm : dn ≤ dc ∧ dc ≤ maxLen := ⟨HN.out.dc, HN.out.dm⟩
  have hinb : ∀ m : Int, 0 ≤ m → m ≤ 3 → inB (1 + m) 1 4 = true := fun m h0 h3 => by
    unfold inB; rw [decide_eq_true (by omega), decide_eq_true (by omega)]; rfl
  rcases Nat.eq_zero_or_pos dn with hd0 | hd0
  · have d1 : decide ((0 : Int) < (dn : Int)) = false := decide_eq_false (by omega)
    have d2 : decide (0 < dn) = false := decide_eq_false (by omega)
    have d3 : ¬ 0 < dn := by omega
    have HD0 := Lib.hid hd0
    clear hd0
    go_upto_region 7 with fail
    have hl0 : dl = [] := List.eq_nil_of_length_eq_zero (by rw [hdl]; exact HD0.out)
    obtain ⟨Wt, hWt⟩ : ∃ W, L = W := ⟨_, rfl⟩
    have HXt := Lib.hid (show Blk Wt x 39 #[.string tnm, .int .i64 tfr, .bool tsp, .slice ZA zln zcp, .slice BA bln bcp, .slice RA rn rc, .slice DA dn dc] from hWt ▸ HX2.out)
    have HBt := Lib.hid (show Below W1.heap.size W1 Wt from hWt ▸ HB3.out)
    have HSt : Hid (x < Wt.heap.size) := Lib.hid (by rw [← hWt, HXS.out]; omega)
    obtain ⟨DZ, hDZ⟩ : ∃ A, DA = A := ⟨_, rfl⟩
    obtain ⟨dc', hdc'⟩ : ∃ A, dc = A := ⟨_, rfl⟩
    obtain ⟨dn', hdn'⟩ : ∃ A, dn = A := ⟨_, rfl⟩
    obtain ⟨dl', hdl'⟩ : ∃ A, dl = A := ⟨_, rfl⟩
    have HDt : Hid (∀ W', Below W1.heap.size W1 W' → Wt.heap.size ≤ W'.heap.size → (∀ q, x < q → q < Wt.heap.size → W'.heap[q]? = Wt.heap[q]?) → DcR W' DZ dl') := Lib.hid (fun W' _ _ _ i hi => by rw [← hdl', hl0] at hi; exact absurd hi (Nat.not_lt_zero i))
    have HLt : Hid (dl'.length = dn' ∧ dn' ≤ dc' ∧ dc' ≤ maxLen) := Lib.hid ⟨by rw [← hdl', ← hdn']; exact hdl, by rw [← hdn', ← hdc']; exact hdm.1, by rw [← hdc']; exact hdm.2⟩
    have HTt : Hid (∀ (kk : Int) (RA' : Option Addr) (rc' : Nat), inB kk 1 4 = true → tarE ⟨tnm, tfr, tsp, ZA, zln, zcp, zl, BA, bln, bcp, bl, RA', rn + 1, rc', rtF kk :: rl, DZ, dn', dc', dl'⟩ = 0) := Lib.hid (fun kk RA' rc' hk => by
      rw [← hDZ, ← hdc', ← hdn', ← hdl']; exact tarE_all (RA := RA') (rc := rc') HTV.out (by show rn ≤ 60; omega) hk)
    rw [hDZ, hdc', hdn'] at HXt
    rw [hWt]
    clear hWt a0 a1 a2 a3 a4 a5 a6 d1 d2 d3 hDZ hdc' hdn' hdl' hl0 hdl hdm
    obtain ⟨m, hm4⟩ : ∃ m : Int, kd % 4 = m := ⟨_, rfl⟩
    have hm5 : kd.tmod 4 = m := by rw [Int.tmod_eq_emod_of_nonneg gk0]; exact hm4
    have hm0 : 0 ≤ m ∧ m ≤ 3 := by omega
    have hmw : IntKind.i64.wrap (1 + m) = 1 + m := IntWalk.i64_in _ (by omega)
    have HIB := Lib.hid (hinb m hm0.1 hm0.2)
    clear hinb
    obtain ⟨cs5, e5, s5, o5, n5⟩ := HT.out.r.row
    simp only at e5 s5 n5
    have hrl : rl.length = rn := HN.out.rl
    have HRC : Hid (rn ≤ rc ∧ rc ≤ maxLen) := Lib.hid ⟨HN.out.rc, HN.out.rm⟩
    obtain ⟨i5, hi5, hy0, hy1, hy2⟩ := info_parts rtInfo
    have HOR : Hid (((Wt.alloc (.cells #[.int .i64 0, .int .i64 1, .int .i64 0] 44)).alloc (.cells #[.int .i64 (1 + m), .string ⟨#[]⟩, .string ⟨#[]⟩, .int .i64 0, .slice (some ⟨Wt.heap.size, 0, none⟩) 1 1] 46)).ownsRow (Wt.heap.size + 1) 46 5 (.slice (some ⟨Wt.heap.size + 1, 0, none⟩) 1 1) 1 [.int .i64 (1 + m), .string ⟨#[]⟩, .string ⟨#[]⟩, .int .i64 0, .slice (some ⟨Wt.heap.size, 0, none⟩) 1 1]) := Lib.hid (by
      have h := own_litR (Wt.alloc (.cells #[.int .i64 0, .int .i64 1, .int .i64 0] 44)) (1 + m) (some ⟨Wt.heap.size, 0, none⟩)
      rw [World.size_alloc] at h; exact h)
    have HB9 := Lib.hid ((HBt.out.alloc HBt.out.size (.cells #[.int .i64 0, .int .i64 1, .int .i64 0] 44)).alloc (by rw [World.size_alloc]; exact Nat.le_succ_of_le HBt.out.size) (.cells #[.int .i64 (1 + m), .string ⟨#[]⟩, .string ⟨#[]⟩, .int .i64 0, .slice (some ⟨Wt.heap.size, 0, none⟩) 1 1] 46))
    have HNW : Hid (cs5.length = rn * 5 ∧ (RA = none → rn = 0) ∧ (∀ ad, RA = some ad → ∀ j u, cs5[j]? = some u → ((Wt.alloc (.cells #[.int .i64 0, .int .i64 1, .int .i64 0] 44)).alloc (.cells #[.int .i64 (1 + m), .string ⟨#[]⟩, .string ⟨#[]⟩, .int .i64 0, .slice (some ⟨Wt.heap.size, 0, none⟩) 1 1] 46)).cell? (ad.add j) = some u) ∧ (∀ u ∈ cs5, u.oneCell' = true)) := Lib.hid ⟨by rw [e5, hrl], fun e => by rw [← hrl]; exact n5 e, fun ad had j u hj => by
      have hlt : j < cs5.length := (List.getElem?_eq_some_iff.1 hj).1
      obtain ⟨b', off', _, _, e, hb', _⟩ := HT.out.r 0 (by show 0 < rl.length; omega)
      simp only at e
      have h := s5 ad had j u hj
      rw [e] at had
      cases had
      exact (HB9.out.cell (p := (⟨b', off', none⟩ : Addr).add j) (by rw [addr_block]; exact hb')).trans h, o5⟩
    obtain ⟨_, _, _, _, _, a5, _⟩ := seven (HBK.out.below HBt.out HBK.out.lt)
    obtain ⟨_, _, _, _, _, a5', _⟩ := seven (HBK.out.below HB9.out HBK.out.lt)
    have HS5 := Lib.hid s5; have HE5 := Lib.hid e5
    have HRL := Lib.hid hrl
    have h60' : rn ≤ 60 := by omega
    clear s5 n5 o5 e5 hrl h60 d60 hm0
    go_wp2_with (first
      | (at_builtin; refine Ap.wpList_append_any rfl (.tmp 57) (.tmp 59) 36 rfl (Wt.heap.size + 1) 46 i5 _ 5 72 Try.underlying36 hi5 hy0 hy1 hy2 rfl (by decide) _ 1 [.int .i64 (1 + m), .string ⟨#[]⟩, .string ⟨#[]⟩, .int .i64 0, .slice (some ⟨Wt.heap.size, 0, none⟩) 1 1] rfl HOR.out RA rn rc cs5 rfl HNW.out.1 HNW.out.2.1 HNW.out.2.2.1 HNW.out.2.2.2 (by unfold maxLen; omega) (by omega) (by simp) ?_
         intro v6 w6 g6 g7
         obtain ⟨z, cz6, rfl, p1, p2, p3, p4, p5⟩ := own_formC g6 (by omega)
         have hx6 := ((HXt.out.alloc (.cells #[.int .i64 0, .int .i64 1, .int .i64 0] 44)).alloc (.cells #[.int .i64 (1 + m), .string ⟨#[]⟩, .string ⟨#[]⟩, .int .i64 0, .slice (some ⟨Wt.heap.size, 0, none⟩) 1 1] 46)).grown g7 (fun e => by have e2 : x = Wt.heap.size + 1 := Option.some.inj e; have := HSt.out; omega)
         have q5 := hx6.cell 5
         have r5 := hx6.frozen 5
         have hy6 : Blk w6 Wt.heap.size 44 #[.int .i64 0, .int .i64 1, .int .i64 0] := ((Blk.new Wt 44 #[.int .i64 0, .int .i64 1, .int .i64 0]).alloc _).grown g7 (fun e => by have e2 : Wt.heap.size = Wt.heap.size + 1 := Option.some.inj e; omega)
         have hs6 : Wt.heap.size + 2 ≤ w6.heap.size := by have h := g7.size; simp at h; exact h
         have hb6 : Below W1.heap.size W1 w6 := Zn.below_grown HB9.out g7 (fun q e => by have e2 : Wt.heap.size + 1 = q := Option.some.inj e; have := HBt.out.size; omega) HB9.out.size
         have hbf := hb6.setCell (p := ⟨x, 5, none⟩) HWX.out (.slice (some ⟨z, 0, none⟩) (1 + rn) cz6)
         have HBF := Lib.hid hbf
         have hxf : Blk (w6.setCell ⟨x, 5, none⟩ (.slice (some ⟨z, 0, none⟩) (1 + rn) cz6)) x 39 #[.string tnm, .int .i64 tfr, .bool tsp, .slice ZA zln zcp, .slice BA bln bcp, .slice (some ⟨z, 0, none⟩) (1 + rn) cz6, .slice DZ dn' dc'] := hx6.set_ 5 _
         have HXF := Lib.hid hxf
         have hN : TfN ⟨tnm, tfr, tsp, ZA, zln, zcp, zl, BA, bln, bcp, bl, some ⟨z, 0, none⟩, 1 + rn, cz6, rtF (1 + m) :: rl, DZ, dn', dc', dl'⟩ := ⟨HN.out.nm, HN.out.zl, HN.out.zc, HN.out.zm, HN.out.bl, HN.out.bc, HN.out.bm, by show (rtF (1 + m) :: rl).length = 1 + rn; rw [List.length_cons, HRL.out]; omega, p1, p2, HLt.out.1, HLt.out.2.1, HLt.out.2.2⟩
         have hrR : RtR (w6.setCell ⟨x, 5, none⟩ (.slice (some ⟨z, 0, none⟩) (1 + rn) cz6)) (some ⟨z, 0, none⟩) (rtF (1 + m) :: rl) := RtR.front HT.out.r hbf (by simpa using p4) (hy6.far (p := ⟨x, 5, none⟩) (by show Wt.heap.size ≠ x; have := HSt.out; omega) _) HE5.out HS5.out fun j u hj => by
           rw [World.cell?_of_block (Below.heap_setCell w6 ⟨x, 5, none⟩ _ z (by show z ≠ x; have := HSt.out; omega))]
           exact p5 j u hj
         have hdR : DcR (w6.setCell ⟨x, 5, none⟩ (.slice (some ⟨z, 0, none⟩) (1 + rn) cz6)) DZ dl' := HDt.out _ hbf (by simp <;> omega) fun q h1 h2 => by
           exact (Below.heap_setCell w6 ⟨x, 5, none⟩ _ q (by show q ≠ x; omega)).trans ((g7.block q (by simp <;> omega) (fun e => by have e2 : q = Wt.heap.size + 1 := Option.some.inj e; omega)).trans ((Below.heap_alloc _ _ q (by simp <;> omega)).trans (Below.heap_alloc _ _ q h2)))
         have hR : TfR (w6.setCell ⟨x, 5, none⟩ (.slice (some ⟨z, 0, none⟩) (1 + rn) cz6)) ⟨tnm, tfr, tsp, ZA, zln, zcp, zl, BA, bln, bcp, bl, some ⟨z, 0, none⟩, 1 + rn, cz6, rtF (1 + m) :: rl, DZ, dn', dc', dl'⟩ := ⟨HT.out.z.below hbf, HT.out.b.below hbf, hrR, hdR⟩
         have HR := Lib.hid hR
         have hB : TfB ⟨tnm, tfr, tsp, ZA, zln, zcp, zl, BA, bln, bcp, bl, some ⟨z, 0, none⟩, 1 + rn, cz6, rtF (1 + m) :: rl, DZ, dn', dc', dl'⟩ := ⟨HTB.out.z, HTB.out.b, fun r hr => by
           rcases List.mem_cons.1 hr with rfl | h
           · show [(⟨0, 1, 0⟩ : Sp)].length ≤ _; decide
           · exact HTB.out.r r h, fun r hr => by
           rcases List.mem_cons.1 hr with rfl | h
           · exact Nat.zero_le _
           · exact HTB.out.s r h⟩
         have HTC := Lib.hid (tariff_is (v := 0) (t := ⟨tnm, tfr, tsp, ZA, zln, zcp, zl, BA, bln, bcp, bl, some ⟨z, 0, none⟩, 1 + rn, cz6, rtF (1 + m) :: rl, DZ, dn', dc', dl'⟩) (by rw [Nat.add_comm 1 rn]; exact HTt.out (1 + m) _ _ HIB.out) _ hN hF.out hR)
         have HCV := Lib.hid (fun (W : World) h => covered_is (t := ⟨tnm, tfr, tsp, ZA, zln, zcp, zl, BA, bln, bcp, bl, some ⟨z, 0, none⟩, 1 + rn, cz6, rtF (1 + m) :: rl, DZ, dn', dc', dl'⟩) (kind := 1 + m) (covE_front (t := ⟨tnm, tfr, tsp, ZA, zln, zcp, zl, BA, bln, bcp, bl, RA, rn, rc, rl, DZ, dn', dc', dl'⟩) (RA := some ⟨z, 0, none⟩) (rn := 1 + rn) (rc := cz6) (DA := DZ) (dn := dn') (dc := dc') (dl := dl') HIB.out) W hN h hB)
         have HCN := Lib.hid (fun (W : World) h => covered_is (t := ⟨tnm, tfr, tsp, ZA, zln, zcp, zl, BA, bln, bcp, bl, some ⟨z, 0, none⟩, 1 + rn, cz6, rtF (1 + m) :: rl, DZ, dn', dc', dl'⟩) (kind := 0) covE_no W hN h hB)
         simp only [Tf.cells] at HTC HCV HCN
         obtain ⟨f0, f1, f2, f3, f4, f5, f6⟩ := seven hxf
         clear a5 a5' g6 g7 p1 p2 p3 p4 p5 hx6 hy6 hs6 hb6 hbf hxf hN hrR hdR hR hB)
      | (go_at_call 17; (with_reducible refine HTC.out.mono ?_); rintro e w8 ⟨rfl, hb8⟩; have HB8 := Lib.hid hb8; clear hb8 f0 f1 f2 f3 f4 f5 f6; obtain ⟨f0, f1, f2, f3, f4, f5, f6⟩ := seven (HXF.out.below HB8.out HXF.out.lt))
      | (go_at_call 19; (with_reducible refine (HCV.out _ (HR.out.below HB8.out)).mono ?_); rintro e w9 ⟨rfl, hb9⟩; have HBJ := Lib.hid (HB8.out.trans (hb9.mono HB8.out.size)); clear hb9 f0 f1 f2 f3 f4 f5 f6; obtain ⟨f0, f1, f2, f3, f4, f5, f6⟩ := seven (HXF.out.below HBJ.out HXF.out.lt))
      | (go_at_call 19; (with_reducible refine (HCN.out _ (HR.out.below HBJ.out)).mono ?_); rintro e w10 ⟨rfl, hb10⟩; have HBK2 := Lib.hid (HBJ.out.trans (hb10.mono HBJ.out.size)); clear hb10)
      | (go_at_call 11; (with_reducible refine (awake_any _).mono ?_); rintro e w11 ⟨rfl, hb11⟩; have HBL := Lib.hid (HBK2.out.trans (hb11.mono HBK2.out.size)); clear hb11))
    go_ret
    exact ⟨rfl, HB1.out.trans ((HBF.out.trans (HBL.out.mono HBF.out.size)).mono HB1.out.size)⟩
  · have d1 : decide ((0 : Int) < (dn : Int)) = true := decide_eq_true (by omega)
    obtain ⟨b, off, _, _, _, hDA, hbl1, _⟩ := HT.out.d 0 (by show 0 < dl.length; omega)
    simp only at hDA
    subst hDA
    have hbl : b < L.heap.size := Nat.lt_of_lt_of_le hbl1 HB3.out.size
    obtain ⟨k, hk⟩ : ∃ k, a.toNat % dn = k := ⟨_, rfl⟩
    have hkd : k < dn := hk ▸ Nat.mod_lt _ (by omega)
    have hrem : a.tmod (dn : Int) = (k : Int) := by
      rw [Int.tmod_eq_emod_of_nonneg ga0, ← hk]
      obtain ⟨m, rfl⟩ : ∃ m : Nat, a = (m : Int) := ⟨a.toNat, by omega⟩
      simp
    clear hk
    go_upto_region 6 with fail
    have HF0 : Hid ((L.alloc (.cells #[] 60)).cell? ⟨g, 6, none⟩ = some (.slice (some ⟨b, off, none⟩) dn dc) ∧ (L.alloc (.cells #[] 60)).cell? ⟨x, 6, none⟩ = some (.slice (some ⟨b, off, none⟩) dn dc) ∧ (L.alloc (.cells #[] 60)).frozen? ⟨x, 6, none⟩ = false) :=
      Lib.hid ⟨((HBK.out.below HB3.out HBK.out.lt).alloc _).cell 6, (HX2.out.alloc _).cell 6, (HX2.out.alloc _).frozen 6⟩
    have k0 : (0 : Int) ≤ (k : Int) := by omega
    have k1 : (k : Int) ≤ (dn : Int) := by omega
    have k2 : (k : Int) ≤ (dc : Int) := by omega
    have k3 : (0 : Int) ≤ (k : Int) + 1 := by omega
    have k4 : (k : Int) + 1 ≤ (dn : Int) := by omega
    have k5 : (dn : Int) ≤ (dc : Int) := by omega
    have k6 : ((k : Int) + 1).toNat = k + 1 := by omega
    have k7 : IntKind.i64.wrap ((k : Int) + 1) = (k : Int) + 1 := IntWalk.i64_in _ (by have := hdm.2; unfold maxLen at this; omega)
    obtain ⟨i0, hi0, hz0, hz1, hz2⟩ := info_parts dcInfo
    have hd70 : dn ≤ 70 := HV.out.2.2.2
    obtain ⟨cs, hcl, hcs1, hc1⟩ := HT.out.d.row
    have hcs : ∀ j u, cs[j]? = some u → L.cell? ⟨b, off + j, none⟩ = some u := fun j u hj => (HB3.out.cell (p := ⟨b, off + j, none⟩) hbl1).trans (hcs1 j u hj)
    have HCS1 := Lib.hid hcs1
    clear hcs1
    have HOL := Lib.hid (own_litD L)
    have hgx : g < x := HGX.out
    have HN1 : Hid (∀ j u, (cs.take (k * 6))[j]? = some u → (L.alloc (.cells #[] 60)).cell? ((⟨b, off, none⟩ : Addr).add j) = some u) := Lib.hid (fun j u hj => by
      rw [add_none]
      exact (((below_one L (.cells #[] 60)).cell (p := ⟨b, off + j, none⟩) hbl).trans (hcs j u (by
        rw [List.getElem?_take] at hj
        split at hj
        · exact hj
        · cases hj))))
    have HL1 : Hid ((cs.take (k * 6)).length = k * 6 ∧ ∀ u ∈ cs.take (k * 6), u.oneCell' = true) := Lib.hid ⟨by rw [List.length_take, hcl, hdl]; omega, fun u hu => hc1 u (List.mem_of_mem_take hu)⟩
    obtain ⟨ad, had, hads⟩ : ∃ ad : Addr, (if dc = k + 1 then some ⟨b, off, none⟩ else some ⟨b, off + (k + 1) * 6, none⟩ : Option Addr) = some ad ∧ ∀ j u, (cs.drop ((k + 1) * 6))[j]? = some u → L.cell? (ad.add j) = some u ∧ ad.block < L.heap.size := by
      by_cases h : dc = k + 1
      · refine ⟨_, if_pos h, fun j u hj => ?_⟩
        rw [List.getElem?_drop, List.getElem?_eq_none (by rw [hcl, hdl]; omega)] at hj
        cases hj
      · refine ⟨_, if_neg h, fun j u hj => ⟨?_, hbl⟩⟩
        rw [List.getElem?_drop] at hj
        rw [add_none, show off + (k + 1) * 6 + j = off + ((k + 1) * 6 + j) by omega]
        exact hcs _ _ hj
    have HADS := Lib.hid hads
    have HL2 : Hid ((cs.drop ((k + 1) * 6)).length = (dn - (k + 1)) * 6 ∧ ∀ u ∈ cs.drop ((k + 1) * 6), u.oneCell' = true) := Lib.hid ⟨by rw [List.length_drop, hcl, hdl]; omega, fun u hu => hc1 u (List.mem_of_mem_drop hu)⟩
    clear hcs hads
    have hne1 : ¬ g = x := by omega
    have hne2 : ¬ x = g := by omega
    go_region_held3 (fun w' => w'.cell? ⟨g, 6, none⟩ = some (.slice (some ⟨b, off, none⟩) dn dc)) (first
        | (go_keep; done)
        | exact HF0.out.1
        | (go_split_ands; (rw [g4.cell_far _ (by show g < _; omega) (fun e => by have := HV4.out g e.symm; omega)]; assumption))
        | (go_split_ands; (rw [g2.cell_far _ (by have := HXS.out; simp; omega) (fun e => by have e2 : g = L.heap.size := Option.some.inj e; have := HXS.out; omega)]; assumption)))
      (first
        | (refine step_append_own (by rfl) (.tmp 36) (.tmp 40) 37 (by rfl) L.heap.size 60 i0 _ 6 80 Try.underlying37 hi0 hz0 hz1 hz2 rfl (by decide) _ 0 [] (by rfl) HOL.out ⟨b, off, none⟩ k dc (cs.take (k * 6)) (by rfl) HL1.out.1 HN1.out HL1.out.2 (by unfold maxLen; omega) (by omega) (by simp) ?_
           intro v4 w4 g1 g2
           rw [Nat.zero_add, List.nil_append] at g1
           have hs4 : x + 2 ≤ w4.heap.size := by have h := g2.size; have := HXS.out; simp at h; omega
           have HV4 : Hid (∀ q, v4.ownBlock = some q → x < q) := Lib.hid (fun q e => by have := (World.ownsRow.lt g1 q e).1; have := HXS.out; omega)
           have HN2 : Hid (∀ j u, (cs.drop ((k + 1) * 6))[j]? = some u → w4.cell? (ad.add j) = some u) := Lib.hid (fun j u hj => by
             obtain ⟨h1, h2⟩ := HADS.out j u hj
             rw [g2.cell_far _ (by rw [addr_block]; simp; omega) (fun e => by rw [addr_block] at e; have e2 : ad.block = L.heap.size := Option.some.inj e; omega)]
             exact ((below_one L (.cells #[] 60)).cell (p := ad.add j) (by rw [addr_block]; exact h2)).trans h1)
           have HO4 := Lib.hid g1
           have HX4 : Hid (Blk w4 x 39 #[.string tnm, .int .i64 tfr, .bool tsp, .slice ZA zln zcp, .slice BA bln bcp, .slice RA rn rc, .slice (some ⟨b, off, none⟩) dn dc]) := Lib.hid ((g2.block x (by have := HXS.out; simp; omega) (fun e => by have e2 : x = L.heap.size := Option.some.inj e; have := HXS.out; omega)).trans (HX2.out.alloc (.cells #[] 60)))
           clear g1)
        | (refine step_append_own (by rfl) (.tmp 41) (.tmp 46) 37 (by rfl) L.heap.size 60 i0 _ 6 80 Try.underlying37 hi0 hz0 hz1 hz2 rfl (by decide) _ k (cs.take (k * 6)) (by rfl) HO4.out ad (dn - (k + 1)) (dc - (k + 1)) (cs.drop ((k + 1) * 6)) (by rfl) HL2.out.1 HN2.out HL2.out.2 (by unfold maxLen; omega) (by omega) (by have := HXS.out; omega) ?_
           intro v5 w5 g3 g4
           obtain ⟨Z, cz, rfl, zc, zm, zz⟩ := own_formA g3
           have HZ5 := Lib.hid zz; have HZC := Lib.hid (show k + (dn - (k + 1)) ≤ cz ∧ cz ≤ maxLen from ⟨zc, zm⟩)
           clear zc zm zz
           have HX5 := Lib.hid (HX4.out.grown g4 (fun e => by have := HV4.out x e.symm; omega))
           have q6 : w5.cell? ⟨x, 6, none⟩ = some (.slice (some ⟨b, off, none⟩) dn dc) := HX5.out.cell 6
           have r6 : w5.frozen? ⟨x, 6, none⟩ = false := HX5.out.frozen 6
           clear g3))
    obtain ⟨Wt, hWt⟩ : ∃ W, w5.setCell ⟨x, 6, none⟩ (.slice Z (k + (dn - (k + 1))) cz) = W := ⟨_, rfl⟩
    have HXt := Lib.hid (show Blk Wt x 39 #[.string tnm, .int .i64 tfr, .bool tsp, .slice ZA zln zcp, .slice BA bln bcp, .slice RA rn rc, .slice Z (k + (dn - (k + 1))) cz] from hWt ▸ HX5.out.set_ 6 _)
    have hb4 : Below W1.heap.size W1 w4 := Zn.below_grown ((HB3.out.alloc HB3.out.size (.cells #[] 60)).drew) g2 (fun q e => by have e2 : L.heap.size = q := Option.some.inj e; have := HB3.out.size; omega) (by have := HB3.out.size; simp; omega)
    have hb5 : Below W1.heap.size W1 w5 := Zn.below_grown hb4 g4 (fun q e => by have := HV4.out q e; have := HWX.out; omega) hb4.size
    have HBt := Lib.hid (show Below W1.heap.size W1 Wt from hWt ▸ hb5.setCell (p := ⟨x, 6, none⟩) HWX.out _)
    have hs5 : w4.heap.size ≤ w5.heap.size := g4.size
    have hst : Wt.heap.size = w5.heap.size := by rw [← hWt]; simp
    have HSt : Hid (x < Wt.heap.size) := Lib.hid (by rw [hst]; omega)
    have HDt : Hid (∀ W', Below W1.heap.size W1 W' → Wt.heap.size ≤ W'.heap.size → (∀ q, x < q → q < Wt.heap.size → W'.heap[q]? = Wt.heap[q]?) → DcR W' Z (cut dl k)) := Lib.hid (fun W' hb hs hq => by
      rcases HZ5.out with ⟨rfl, h0⟩ | ⟨z, rfl, h1, h2, h3⟩
      · intro i hi
        rw [cut_len (by omega)] at hi
        exact absurd hi (by omega)
      · have hxz : x < z := by have := HXS.out; omega
        refine DcR.cut HT.out.d (by rw [hdl]; exact hkd) hb (by omega) hcl HCS1.out fun j u hj => ?_
        rw [World.cell?_of_block (hq z hxz (by omega)), ← hWt, World.cell?_of_block (Below.heap_setCell w5 ⟨x, 6, none⟩ _ z (by show z ≠ x; omega))]
        exact h3 j u hj)
    have HLt : Hid ((cut dl k).length = k + (dn - (k + 1)) ∧ k + (dn - (k + 1)) ≤ cz ∧ cz ≤ maxLen) := Lib.hid ⟨by rw [cut_len (by omega)]; omega, HZC.out⟩
    have HTt : Hid (∀ (kk : Int) (RA' : Option Addr) (rc' : Nat), inB kk 1 4 = true → tarE ⟨tnm, tfr, tsp, ZA, zln, zcp, zl, BA, bln, bcp, bl, RA', rn + 1, rc', rtF kk :: rl, Z, k + (dn - (k + 1)), cz, cut dl k⟩ = 0) := Lib.hid (fun kk RA' rc' hk => by
      rw [show k + (dn - (k + 1)) = dn - 1 by omega]
      exact tarE_cut (RA := RA') (rc := rc') (DA := Z) (dc := cz) (k := k) HTV.out (by show rn ≤ 60; omega) hk hdl hkd)
    rw [hWt]
    clear hWt hb4 hb5 hs4 hs5 hst q6 r6 g2 g4 a0 a1 a2 a3 a4 a5 a6 had hkd hrem hd70 hcl hc1 hd0 hdl hdm d1 k0 k1 k2 k3 k4 k5 k6 k7 hi0 hz0 hz1 hz2 hne1 hne2 hgx hbl hbl1
    obtain ⟨dn', hdn'⟩ : ∃ A, k + (dn - (k + 1)) = A := ⟨_, rfl⟩
    obtain ⟨dl', hdl'⟩ : ∃ A, cut dl k = A := ⟨_, rfl⟩
    obtain ⟨dc', hdc'⟩ : ∃ A, cz = A := ⟨_, rfl⟩
    obtain ⟨DZ, hDZ⟩ : ∃ A, Z = A := ⟨_, rfl⟩
    rw [hdl', hDZ] at HDt
    rw [hdl', hdn', hdc'] at HLt
    rw [hdn', hDZ, hdc'] at HXt
    rw [hdn', hdl', hDZ, hdc'] at HTt
    clear hdn' hdl' hdc' hDZ
    obtain ⟨m, hm4⟩ : ∃ m : Int, kd % 4 = m := ⟨_, rfl⟩
    have hm5 : kd.tmod 4 = m := by rw [Int.tmod_eq_emod_of_nonneg gk0]; exact hm4
    have hm0 : 0 ≤ m ∧ m ≤ 3 := by omega
    have hmw : IntKind.i64.wrap (1 + m) = 1 + m := IntWalk.i64_in _ (by omega)
    have HIB := Lib.hid (hinb m hm0.1 hm0.2)
    clear hinb
    obtain ⟨cs5, e5, s5, o5, n5⟩ := HT.out.r.row
    simp only at e5 s5 n5
    have hrl : rl.length = rn := HN.out.rl
    have HRC : Hid (rn ≤ rc ∧ rc ≤ maxLen) := Lib.hid ⟨HN.out.rc, HN.out.rm⟩
    obtain ⟨i5, hi5, hy0, hy1, hy2⟩ := info_parts rtInfo
    have HOR : Hid (((Wt.alloc (.cells #[.int .i64 0, .int .i64 1, .int .i64 0] 44)).alloc (.cells #[.int .i64 (1 + m), .string ⟨#[]⟩, .string ⟨#[]⟩, .int .i64 0, .slice (some ⟨Wt.heap.size, 0, none⟩) 1 1] 46)).ownsRow (Wt.heap.size + 1) 46 5 (.slice (some ⟨Wt.heap.size + 1, 0, none⟩) 1 1) 1 [.int .i64 (1 + m), .string ⟨#[]⟩, .string ⟨#[]⟩, .int .i64 0, .slice (some ⟨Wt.heap.size, 0, none⟩) 1 1]) := Lib.hid (by
      have h := own_litR (Wt.alloc (.cells #[.int .i64 0, .int .i64 1, .int .i64 0] 44)) (1 + m) (some ⟨Wt.heap.size, 0, none⟩)
      rw [World.size_alloc] at h; exact h)
    have HB9 := Lib.hid ((HBt.out.alloc HBt.out.size (.cells #[.int .i64 0, .int .i64 1, .int .i64 0] 44)).alloc (by rw [World.size_alloc]; exact Nat.le_succ_of_le HBt.out.size) (.cells #[.int .i64 (1 + m), .string ⟨#[]⟩, .string ⟨#[]⟩, .int .i64 0, .slice (some ⟨Wt.heap.size, 0, none⟩) 1 1] 46))
    have HNW : Hid (cs5.length = rn * 5 ∧ (RA = none → rn = 0) ∧ (∀ ad, RA = some ad → ∀ j u, cs5[j]? = some u → ((Wt.alloc (.cells #[.int .i64 0, .int .i64 1, .int .i64 0] 44)).alloc (.cells #[.int .i64 (1 + m), .string ⟨#[]⟩, .string ⟨#[]⟩, .int .i64 0, .slice (some ⟨Wt.heap.size, 0, none⟩) 1 1] 46)).cell? (ad.add j) = some u) ∧ (∀ u ∈ cs5, u.oneCell' = true)) := Lib.hid ⟨by rw [e5, hrl], fun e => by rw [← hrl]; exact n5 e, fun ad had j u hj => by
      have hlt : j < cs5.length := (List.getElem?_eq_some_iff.1 hj).1
      obtain ⟨b', off', _, _, e, hb', _⟩ := HT.out.r 0 (by show 0 < rl.length; omega)
      simp only at e
      have h := s5 ad had j u hj
      rw [e] at had
      cases had
      exact (HB9.out.cell (p := (⟨b', off', none⟩ : Addr).add j) (by rw [addr_block]; exact hb')).trans h, o5⟩
    obtain ⟨_, _, _, _, _, a5, _⟩ := seven (HBK.out.below HBt.out HBK.out.lt)
    obtain ⟨_, _, _, _, _, a5', _⟩ := seven (HBK.out.below HB9.out HBK.out.lt)
    have HS5 := Lib.hid s5; have HE5 := Lib.hid e5
    have HRL := Lib.hid hrl
    have h60' : rn ≤ 60 := by omega
    clear s5 n5 o5 e5 hrl h60 d60 hm0
    go_wp2_with (first
      | (at_builtin; refine Ap.wpList_append_any rfl (.tmp 57) (.tmp 59) 36 rfl (Wt.heap.size + 1) 46 i5 _ 5 72 Try.underlying36 hi5 hy0 hy1 hy2 rfl (by decide) _ 1 [.int .i64 (1 + m), .string ⟨#[]⟩, .string ⟨#[]⟩, .int .i64 0, .slice (some ⟨Wt.heap.size, 0, none⟩) 1 1] rfl HOR.out RA rn rc cs5 rfl HNW.out.1 HNW.out.2.1 HNW.out.2.2.1 HNW.out.2.2.2 (by unfold maxLen; omega) (by omega) (by simp) ?_
         intro v6 w6 g6 g7
         obtain ⟨z, cz6, rfl, p1, p2, p3, p4, p5⟩ := own_formC g6 (by omega)
         have hx6 := ((HXt.out.alloc (.cells #[.int .i64 0, .int .i64 1, .int .i64 0] 44)).alloc (.cells #[.int .i64 (1 + m), .string ⟨#[]⟩, .string ⟨#[]⟩, .int .i64 0, .slice (some ⟨Wt.heap.size, 0, none⟩) 1 1] 46)).grown g7 (fun e => by have e2 : x = Wt.heap.size + 1 := Option.some.inj e; have := HSt.out; omega)
         have q5 := hx6.cell 5
         have r5 := hx6.frozen 5
         have hy6 : Blk w6 Wt.heap.size 44 #[.int .i64 0, .int .i64 1, .int .i64 0] := ((Blk.new Wt 44 #[.int .i64 0, .int .i64 1, .int .i64 0]).alloc _).grown g7 (fun e => by have e2 : Wt.heap.size = Wt.heap.size + 1 := Option.some.inj e; omega)
         have hs6 : Wt.heap.size + 2 ≤ w6.heap.size := by have h := g7.size; simp at h; exact h
         have hb6 : Below W1.heap.size W1 w6 := Zn.below_grown HB9.out g7 (fun q e => by have e2 : Wt.heap.size + 1 = q := Option.some.inj e; have := HBt.out.size; omega) HB9.out.size
         have hbf := hb6.setCell (p := ⟨x, 5, none⟩) HWX.out (.slice (some ⟨z, 0, none⟩) (1 + rn) cz6)
         have HBF := Lib.hid hbf
         have hxf : Blk (w6.setCell ⟨x, 5, none⟩ (.slice (some ⟨z, 0, none⟩) (1 + rn) cz6)) x 39 #[.string tnm, .int .i64 tfr, .bool tsp, .slice ZA zln zcp, .slice BA bln bcp, .slice (some ⟨z, 0, none⟩) (1 + rn) cz6, .slice DZ dn' dc'] := hx6.set_ 5 _
         have HXF := Lib.hid hxf
         have hN : TfN ⟨tnm, tfr, tsp, ZA, zln, zcp, zl, BA, bln, bcp, bl, some ⟨z, 0, none⟩, 1 + rn, cz6, rtF (1 + m) :: rl, DZ, dn', dc', dl'⟩ := ⟨HN.out.nm, HN.out.zl, HN.out.zc, HN.out.zm, HN.out.bl, HN.out.bc, HN.out.bm, by show (rtF (1 + m) :: rl).length = 1 + rn; rw [List.length_cons, HRL.out]; omega, p1, p2, HLt.out.1, HLt.out.2.1, HLt.out.2.2⟩
         have hrR : RtR (w6.setCell ⟨x, 5, none⟩ (.slice (some ⟨z, 0, none⟩) (1 + rn) cz6)) (some ⟨z, 0, none⟩) (rtF (1 + m) :: rl) := RtR.front HT.out.r hbf (by simpa using p4) (hy6.far (p := ⟨x, 5, none⟩) (by show Wt.heap.size ≠ x; have := HSt.out; omega) _) HE5.out HS5.out fun j u hj => by
           rw [World.cell?_of_block (Below.heap_setCell w6 ⟨x, 5, none⟩ _ z (by show z ≠ x; have := HSt.out; omega))]
           exact p5 j u hj
         have hdR : DcR (w6.setCell ⟨x, 5, none⟩ (.slice (some ⟨z, 0, none⟩) (1 + rn) cz6)) DZ dl' := HDt.out _ hbf (by simp <;> omega) fun q h1 h2 => by
           exact (Below.heap_setCell w6 ⟨x, 5, none⟩ _ q (by show q ≠ x; omega)).trans ((g7.block q (by simp <;> omega) (fun e => by have e2 : q = Wt.heap.size + 1 := Option.some.inj e; omega)).trans ((Below.heap_alloc _ _ q (by simp <;> omega)).trans (Below.heap_alloc _ _ q h2)))
         have hR : TfR (w6.setCell ⟨x, 5, none⟩ (.slice (some ⟨z, 0, none⟩) (1 + rn) cz6)) ⟨tnm, tfr, tsp, ZA, zln, zcp, zl, BA, bln, bcp, bl, some ⟨z, 0, none⟩, 1 + rn, cz6, rtF (1 + m) :: rl, DZ, dn', dc', dl'⟩ := ⟨HT.out.z.below hbf, HT.out.b.below hbf, hrR, hdR⟩
         have HR := Lib.hid hR
         have hB : TfB ⟨tnm, tfr, tsp, ZA, zln, zcp, zl, BA, bln, bcp, bl, some ⟨z, 0, none⟩, 1 + rn, cz6, rtF (1 + m) :: rl, DZ, dn', dc', dl'⟩ := ⟨HTB.out.z, HTB.out.b, fun r hr => by
           rcases List.mem_cons.1 hr with rfl | h
           · show [(⟨0, 1, 0⟩ : Sp)].length ≤ _; decide
           · exact HTB.out.r r h, fun r hr => by
           rcases List.mem_cons.1 hr with rfl | h
           · exact Nat.zero_le _
           · exact HTB.out.s r h⟩
         have HTC := Lib.hid (tariff_is (v := 0) (t := ⟨tnm, tfr, tsp, ZA, zln, zcp, zl, BA, bln, bcp, bl, some ⟨z, 0, none⟩, 1 + rn, cz6, rtF (1 + m) :: rl, DZ, dn', dc', dl'⟩) (by rw [Nat.add_comm 1 rn]; exact HTt.out (1 + m) _ _ HIB.out) _ hN hF.out hR)
         have HCV := Lib.hid (fun (W : World) h => covered_is (t := ⟨tnm, tfr, tsp, ZA, zln, zcp, zl, BA, bln, bcp, bl, some ⟨z, 0, none⟩, 1 + rn, cz6, rtF (1 + m) :: rl, DZ, dn', dc', dl'⟩) (kind := 1 + m) (covE_front (t := ⟨tnm, tfr, tsp, ZA, zln, zcp, zl, BA, bln, bcp, bl, RA, rn, rc, rl, DZ, dn', dc', dl'⟩) (RA := some ⟨z, 0, none⟩) (rn := 1 + rn) (rc := cz6) (DA := DZ) (dn := dn') (dc := dc') (dl := dl') HIB.out) W hN h hB)
         have HCN := Lib.hid (fun (W : World) h => covered_is (t := ⟨tnm, tfr, tsp, ZA, zln, zcp, zl, BA, bln, bcp, bl, some ⟨z, 0, none⟩, 1 + rn, cz6, rtF (1 + m) :: rl, DZ, dn', dc', dl'⟩) (kind := 0) covE_no W hN h hB)
         simp only [Tf.cells] at HTC HCV HCN
         obtain ⟨f0, f1, f2, f3, f4, f5, f6⟩ := seven hxf
         clear a5 a5' g6 g7 p1 p2 p3 p4 p5 hx6 hy6 hs6 hb6 hbf hxf hN hrR hdR hR hB)
      | (go_at_call 17; (with_reducible refine HTC.out.mono ?_); rintro e w8 ⟨rfl, hb8⟩; have HB8 := Lib.hid hb8; clear hb8 f0 f1 f2 f3 f4 f5 f6; obtain ⟨f0, f1, f2, f3, f4, f5, f6⟩ := seven (HXF.out.below HB8.out HXF.out.lt))
      | (go_at_call 19; (with_reducible refine (HCV.out _ (HR.out.below HB8.out)).mono ?_); rintro e w9 ⟨rfl, hb9⟩; have HBJ := Lib.hid (HB8.out.trans (hb9.mono HB8.out.size)); clear hb9 f0 f1 f2 f3 f4 f5 f6; obtain ⟨f0, f1, f2, f3, f4, f5, f6⟩ := seven (HXF.out.below HBJ.out HXF.out.lt))
      | (go_at_call 19; (with_reducible refine (HCN.out _ (HR.out.below HBJ.out)).mono ?_); rintro e w10 ⟨rfl, hb10⟩; have HBK2 := Lib.hid (HBJ.out.trans (hb10.mono HBJ.out.size)); clear hb10)
      | (go_at_call 11; (with_reducible refine (awake_any _).mono ?_); rintro e w11 ⟨rfl, hb11⟩; have HBL := Lib.hid (HBK2.out.trans (hb11.mono HBK2.out.size)); clear hb11))
    go_ret
    exact ⟨rfl, HB1.out.trans ((HBF.out.trans (HBL.out.mono HBF.out.size)).mono HB1.out.size)⟩
end Go.Proofs.Ytolgfkkjbefecaa
