/- The sort of zones by their names, by the library's contract. -/
import Derived.Test.YtflonakoagjmhaaZnRn
namespace Go.Proofs.Ytflonakoagjmhaa.Zn
open Go.RowKit Go.Lib Go.Sort Go.Shelf Go.Proofs.Ytflonakoagjmhaa

def cmpN (a b : ByteArray) : Int := if Op.bytesLess a.toList b.toList = true then -1 else if (a.toList == b.toList) = true then 0 else 1
set_option maxHeartbeats 1000000 in
theorem cmpStrN_any (a b : ByteArray) (w : World) : Calls Try.prog 39 #[.string a, .string b] w fun e w' => e = .returned (.int .i64 (cmpN a b)) ∧ w = w' := by
  cases g1 : Op.bytesLess a.toList b.toList with
  | true =>
    have HF : Hid (cmpN a b = -1) := Lib.hid (by unfold cmpN; rw [if_pos g1])
    go_enter Try.func39, Try.ntmps39
    go_wp2_with (go_at_call 52; refine (isNaN_any _ _).mono ?_; rintro e w1 ⟨rfl, rfl⟩)
    go_ret
    exact ⟨ret_int HF.out.symm, rfl⟩
  | false =>
    cases g2 : (a.toList == b.toList) with
    | true =>
      have HF : Hid (cmpN a b = 0) := Lib.hid (by unfold cmpN; rw [if_neg (by rw [g1]; decide), if_pos g2])
      go_enter Try.func39, Try.ntmps39
      go_wp2_with (go_at_call 52; refine (isNaN_any _ _).mono ?_; rintro e w1 ⟨rfl, rfl⟩)
      go_ret
      exact ⟨ret_int HF.out.symm, rfl⟩
    | false =>
      have HF : Hid (cmpN a b = 1) := Lib.hid (by unfold cmpN; rw [if_neg (by rw [g1]; decide), if_neg (by rw [g2]; decide)])
      go_enter Try.func39, Try.ntmps39
      go_wp2_with (go_at_call 52; refine (isNaN_any _ _).mono ?_; rintro e w1 ⟨rfl, rfl⟩)
      go_ret
      exact ⟨ret_int HF.out.symm, rfl⟩
/-- A zone as memory has it, and what its prefixes read as. -/
structure ZV where
  nm : ByteArray
  A : Option Addr
  n : Nat
  c : Nat
  ps : List ByteArray
instance : Inhabited ZV := ⟨⟨⟨#[]⟩, none, 0, 0, []⟩⟩
def zv0 : ZV := ⟨⟨#[]⟩, none, 0, 0, []⟩
def encZ (z : ZV) : List Value := [.string z.nm, .slice z.A z.n z.c]
def zvl (E : List ZV) : List Value := E.flatMap encZ
theorem zvl_app (a b : List ZV) : zvl (a ++ b) = zvl a ++ zvl b := List.flatMap_append
theorem zvl_len (E : List ZV) : (zvl E).length = E.length * 2 := by
  induction E with
  | nil => rfl
  | cons r l ih => rw [zvl, List.flatMap_cons, List.length_append]; rw [zvl] at ih; rw [ih]; simp [encZ]; omega
theorem zvl_one (E : List ZV) : ∀ v ∈ zvl E, v.oneCell' = true := by
  intro v hv
  obtain ⟨r, _, h⟩ := List.mem_flatMap.1 hv
  simp [encZ] at h
  rcases h with rfl | rfl <;> rfl
theorem zvl_at : ∀ (E : List ZV) (k r : Nat), k < E.length → r < 2 → (zvl E)[k * 2 + r]? = (encZ (E.getD k zv0))[r]?
  | [], k, _, h, _ => absurd h (Nat.not_lt_zero k)
  | z :: l, 0, r, _, hr => by
    rw [zvl, List.flatMap_cons, Nat.zero_mul, Nat.zero_add, List.getElem?_append_left (by simp [encZ]; omega)]; simp
  | z :: l, k + 1, r, h, hr => by
    have := zvl_at l k r (by simpa using h) hr
    rw [zvl, List.flatMap_cons, List.getElem?_append_right (by simp [encZ]; omega), show (k + 1) * 2 + r - (encZ z).length = k * 2 + r by simp [encZ]; omega]
    rw [zvl] at this
    rw [this]; simp
theorem encZ_get (z : ZV) (r : Nat) (hr : r < 2) : (encZ z)[r]? = some (encZ z)[r]! := by
  match r, hr with
  | 0, _ => rfl
  | 1, _ => rfl
def cfZ (x y : ZV) : Int := cmpN x.nm y.nm
theorem ltZ (x y : ZV) : ltOf cfZ x y = Op.bytesLess x.nm.toList y.nm.toList := by
  unfold ltOf cfZ cmpN
  cases h : Op.bytesLess x.nm.toList y.nm.toList
  · rw [if_neg (by decide)]
    split <;> rfl
  · rw [if_pos rfl]; rfl
theorem swoZ : SWO (ltOf cfZ) where
  irrefl x := by rw [ltZ]; exact less_irrefl _
  trans x y z h1 h2 := by rw [ltZ] at *; exact less_trans _ _ _ h1 h2
  ntrans x y z h1 h2 := by
    rw [ltZ] at *
    cases h3 : Op.bytesLess x.nm.toList z.nm.toList with
    | false => rfl
    | true =>
      exfalso
      by_cases he : (x.nm.toList == y.nm.toList) = true
      · rw [eq_of_beq he] at h3; rw [h2] at h3; cases h3
      · have h4 := less_total _ _ h1 (by simpa using he)
        rw [less_trans _ _ _ h4 h3] at h2; cases h2
theorem closureZ (x y : ZV) (W : World) : Calls Try.prog 38 #[.agg #[.string x.nm, .slice x.A x.n x.c], .agg #[.string y.nm, .slice y.A y.n y.c]] W fun e w' => e = .returned (.int .i64 (cfZ x y)) ∧ ∃ q os', w' = grow (W.drewN q) os' := by
  obtain ⟨xn, xA, xl, xc, xp⟩ := x
  obtain ⟨yn, yA, yl, yc, yp⟩ := y
  unfold cfZ
  simp only
  have hcon := fun W' => cmpStrN_any xn yn W'
  generalize cmpN xn yn = r at hcon ⊢
  have H1 := Lib.hid hcon
  clear hcon
  have h0 := ((Blk.new W 37 #[.string xn, .slice xA xl xc]).alloc (.cells #[.string yn, .slice yA yl yc] 37)).cell 0
  have h1 := (Blk.new (W.alloc (.cells #[.string xn, .slice xA xl xc] 37)) 37 #[.string yn, .slice yA yl yc]).cell 0
  go_enter Try.func38, Try.ntmps38
  go_wp2_with (go_at_call 39; (with_reducible refine (H1.out _).mono ?_); rintro e w' ⟨rfl, rfl⟩)
  go_ret
  exact ⟨rfl, 0, _, by rw [alloc_eq_grow, alloc_eq_grow, grow_grow]; rfl⟩
theorem cmpLZ (blk off size : Nat) (w : World) : CmpLays Try.prog 38 #[] encZ 2 cfZ blk off size w := fun _ _ _ _ x y => closureZ x y _
theorem holdsZ {w : World} {base g cap n : Nat} {E : List ZV} (hown : w.ownsRow base 37 2 (.slice (some ⟨g, 0, none⟩) n cap) n (zvl E)) (hn : E.length = n) : HoldsK encZ 2 w g 0 E.toArray := by
  intro j hj
  rw [size_flatK, List.size_toArray, hn] at hj
  refine ⟨?_, by rw [Nat.zero_add]; exact World.ownsRow.frozenAt hown j⟩
  rw [Nat.zero_add, World.ownsRow.cellAt hown j hj, get_flatK _ _ _ _ (by rw [List.size_toArray, hn]; exact hj)]
  have h1 := zvl_at E (j / 2) (j % 2) (by omega) (by omega)
  rw [show j / 2 * 2 + j % 2 = j by omega, encZ_get _ _ (by omega)] at h1
  rw [h1]
  have h2 : E.toArray[j / 2]! = E.getD (j / 2) zv0 := by
    rw [getElem!_pos _ _ (by rw [List.size_toArray]; omega)]
    simp [List.getD, List.getElem?_eq_getElem (show j / 2 < E.length by omega)]
  rw [h2]
  rfl
/-- A row that reads as a list of zones. -/
def VzR (w : World) (g : Nat) (E : List ZV) : Prop := g < w.heap.size ∧ ∀ k, k < E.length → w.cell? ⟨g, k * 2, none⟩ = some (.string (E.getD k zv0).nm) ∧ w.cell? ⟨g, k * 2 + 1, none⟩ = some (.slice (E.getD k zv0).A (E.getD k zv0).n (E.getD k zv0).c)
theorem vz_of {w : World} {g : Nat} {d : Array ZV} (h : HoldsK encZ 2 w g 0 d) (hg : g < w.heap.size) : VzR w g d.toList := by
  refine ⟨hg, fun k hk => ?_⟩
  rw [Array.length_toList] at hk
  have e : d.toList.getD k zv0 = d[k]! := by
    rw [getElem!_pos d k hk]
    simp [List.getD, List.getElem?_eq_getElem (show k < d.toList.length by simpa using hk)]
  have hc : ∀ r, r < 2 → w.cell? ⟨g, k * 2 + r, none⟩ = some (encZ d[k]!)[r]! := by
    intro r hr
    have h1 := (h (k * 2 + r) (by rw [size_flatK]; omega)).1
    rw [get_flatK _ _ _ _ (by omega), Nat.zero_add, show (k * 2 + r) / 2 = k by omega, show (k * 2 + r) % 2 = r by omega] at h1
    exact h1
  rw [e]
  exact ⟨hc 0 (by omega), hc 1 (by omega)⟩
set_option maxHeartbeats 4000000 in
/-- The zones are sorted. -/
theorem sortZ_any {w : World} {base g cap n : Nat} {E : List ZV} (hown : w.ownsRow base 37 2 (.slice (some ⟨g, 0, none⟩) n cap) n (zvl E)) (hn : E.length = n) (hsz : n ≤ 1000000) :
    Calls Try.prog 37 #[.slice (some ⟨g, 0, none⟩) n cap, .func (.func 38) #[] #[]] w fun e w' =>
      e = .returned (.tuple #[]) ∧ ∃ E' : List ZV, E'.Perm E ∧ (E'.Pairwise fun x y => Op.bytesLess y.nm.toList x.nm.toList = false) ∧ VzR w' g E' ∧ Below base w w' ∧ w.grownBy w' (some g) := by
  subst hn
  have hg := World.ownsRow.lt hown g rfl
  have hH := holdsZ hown rfl
  have eg : ∀ args w, (callFunc 38 args).run Try.prog w = .ok (.enter 38 args) w := enters_of Try.func38 (by kernel_rfl) rfl
  have hcon := AnyQ.slices_SortFunc Try.sortZ 2 Try.isAgg37 Try.sizeOf37 encZ (fun _ => rfl) (fun x v hv => by simp [encZ] at hv; rcases hv with rfl | rfl <;> rfl) cfZ swoZ 38 #[] g 0 cap E.toArray w eg (cmpLZ g 0 E.toArray.size w) hH hg.2 (by rw [List.size_toArray]; omega)
  rw [List.size_toArray] at hcon
  change Calls Try.prog 37 _ _ _ at hcon
  refine hcon.mono ?_
  rintro e w' ⟨rfl, d', n, os, hp, hs, rfl⟩
  have hs1 : d'.size = E.toArray.size := hp.1
  have hp2 : PermIn 0 E.toArray.size E.toArray d' := by rw [List.size_toArray]; exact hp
  have hs2 : SortedIn (ltOf cfZ) 0 E.toArray.size d' := by rw [List.size_toArray]; exact hs
  have hb : Below base w (sortWorldK encZ 2 w g 0 n d' os) := by
    unfold sortWorldK putRowK
    exact below_grow (below_putRow (below_ahead (Below.refl _ w) n) _ _ _ _ hg.1) (by have := hg.1; have := hg.2; simp; omega) os
  refine ⟨rfl, d'.toList, perm_in hp2, ?_, vz_of ?_ ?_, hb, ?_⟩
  · refine (sorted_in hs1 hs2).imp ?_
    intro x y h
    rw [ltZ] at h; exact h
  · unfold sortWorldK
    exact holdsK_grow _ _ _ _ _ _ _ (by unfold putRowK; simp; exact hg.2) (holdsK_putRowK _ _ _ _ _ _ d' (holdsK_ahead _ _ _ _ _ _ _ hH) hs1)
  · have := hb.size; have := hg.2; omega
  · refine ⟨hb.os, hb.tape, hb.output, hb.size, fun k hk hne => ?_⟩
    have hkg : k ≠ g := fun e => hne (by rw [e])
    unfold sortWorldK putRowK putRow mapBlock
    simp [grow, Array.getElem?_append, Array.getElem?_modify, hk, Ne.symm hkg, Sort.ahead]
    rw [Array.getElem_modify, if_neg (Ne.symm hkg)]
/-- The prefixes are sorted, as texts. -/
theorem sortB_any {w : World} {base g cap n : Nat} {L : List ByteArray} (hown : w.ownsRow base 9 1 (.slice (some ⟨g, 0, none⟩) n cap) n (L.map Value.string)) (hn : L.length = n) (hsz : n ≤ 1000000) (hL : ∀ s ∈ L, s.size ≤ maxLen) :
    Calls Try.prog 35 #[.slice (some ⟨g, 0, none⟩) n cap, .func (.func 36) #[] #[]] w fun e w' =>
      e = .returned (.tuple #[]) ∧ ∃ L' : List ByteArray, L'.Perm L ∧ (L'.Pairwise fun x y => ¬ lessS y x) ∧ TsR w' (some ⟨g, 0, none⟩) L' ∧ Below base w w' ∧ w.grownBy w' (some g) := by
  obtain ⟨T, hT⟩ : ∃ T : List Tb, T.map (·.1) = L := ⟨L.pmap Subtype.mk hL, by rw [List.map_pmap]; simp⟩
  have h1 : L.map Value.string = T.map encT := by rw [← hT, List.map_map]; rfl
  rw [h1] at hown
  refine (sortT_any hown (by rw [← hn, ← hT, List.length_map]) hsz).mono ?_
  rintro e w' ⟨rfl, T', hp, hs, hr, hb, hg⟩
  exact ⟨rfl, T'.map (·.1), by rw [← hT]; exact hp.map _, List.pairwise_map.2 hs, hr, hb, hg⟩
end Go.Proofs.Ytflonakoagjmhaa.Zn
