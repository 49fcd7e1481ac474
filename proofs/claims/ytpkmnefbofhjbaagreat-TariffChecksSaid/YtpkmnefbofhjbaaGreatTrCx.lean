/- Walk: the reference's At. Mathematics: what the search by halving finds in an ascending list. Walks of the reference: the order of two tariffs, and Check of a list. Walk of the law on Check. -/
import Derived.Test.YtpkmnefbofhjbaaGreatTn2
import Derived.Test.YtpkmnefbofhjbaaGreatPdM
import Derived.Test.YtpkmnefbofhjbaaGreatCkO
import Derived.Lib.QuietBelow
import Derived.BigQuiet
namespace Go.Proofs.YtpkmnefbofhjbaaGreat.Ck
open Go Go.Lib Go.RowKit Go.Proofs.YtpkmnefbofhjbaaGreat Go.Maps

/-- Does a version of this name begin by then? The last one of the first k. -/
def qT (nm : ByteArray) (t : Int) (x : Tf) : Bool := (x.nm.toList == nm.toList) && decide (x.fr ≤ t)
def lastK (nm : ByteArray) (t : Int) (l : List Tf) (k : Nat) : Option Tf := ((l.take k).filter (qT nm t)).getLast?
theorem lastK_next {nm : ByteArray} {t : Int} {l : List Tf} {k : Nat} {x : Tf} (h : l[k]? = some x) : lastK nm t l (k + 1) = if qT nm t x = true then some x else lastK nm t l k := by
  unfold lastK
  rw [List.take_add_one, h, List.filter_append]
  show (_ ++ [x].filter _).getLast? = _
  rw [List.filter_cons]
  by_cases hq : qT nm t x = true
  · rw [if_pos hq, if_pos hq]; simp
  · rw [if_neg hq, if_neg hq]; simp
def oc : Option Tf → Array Value
  | some x => #[.string x.nm, .int .i64 x.fr, .bool x.sp, .slice x.ZA x.zn x.zc, .slice x.BA x.bn x.bc, .slice x.RA x.rn x.rc, .slice x.DA x.dn x.dc]
  | none => #[.string ⟨#[]⟩, .int .i64 0, .bool false, .slice none 0 0, .slice none 0 0, .slice none 0 0, .slice none 0 0]
theorem oc_seven (o : Option Tf) : ∃ z0 z1 z2 z3 z4 z5 z6, oc o = #[z0, z1, z2, z3, z4, z5, z6] := by
  cases o with
  | none => exact ⟨_, _, _, _, _, _, _, rfl⟩
  | some x => exact ⟨_, _, _, _, _, _, _, rfl⟩
end Go.Proofs.YtpkmnefbofhjbaaGreat.Ck
namespace Go.Proofs.YtpkmnefbofhjbaaGreat.Ck
open Go Go.Lib Go.RowKit Go.Proofs.YtpkmnefbofhjbaaGreat Go.Maps

/-- One key comes before another: by name, then by beginning. -/
def kLt (a : ByteArray) (x : Int) (b : ByteArray) (y : Int) : Prop := Op.bytesLess a.toList b.toList = true ∨ (a.toList = b.toList ∧ x < y)
theorem kLt.trans {a b c : ByteArray} {x y z : Int} (h1 : kLt a x b y) (h2 : kLt b y c z) : kLt a x c z := by
  rcases h1 with h1 | ⟨h1, h1'⟩ <;> rcases h2 with h2 | ⟨h2, h2'⟩
  · exact .inl (Pd.less_trans _ _ _ h1 h2)
  · exact .inl (h2 ▸ h1)
  · exact .inl (h1 ▸ h2)
  · exact .inr ⟨h1.trans h2, by omega⟩
theorem kLt.asymm {a b : ByteArray} {x y : Int} (h1 : kLt a x b y) (h2 : kLt b y a x) : False := by
  rcases h1 with h1 | ⟨h1, h1'⟩ <;> rcases h2 with h2 | ⟨h2, h2'⟩
  · have := Pd.less_asymm _ _ h1; rw [h2] at this; cases this
  · rw [h2, less_self] at h1; cases h1
  · rw [h1, less_self] at h2; cases h2
  · omega
theorem ordT_pos {nm : ByteArray} {fr : Int} {t : Tf} : 0 < ordT nm fr t ↔ kLt t.nm t.fr nm fr := by
  unfold ordT orI cmpB cmpI kLt
  by_cases h1 : Op.bytesLess nm.toList t.nm.toList = true
  · rw [if_pos h1]
    constructor
    · intro h; simp at h
    · rintro (h | ⟨h, -⟩)
      · have := Pd.less_asymm _ _ h1; rw [h] at this; cases this
      · rw [h, less_self] at h1; cases h1
  · rw [if_neg h1]
    by_cases h2 : nm.toList = t.nm.toList
    · rw [if_pos h2, if_pos rfl]
      constructor
      · intro h
        refine .inr ⟨h2.symm, ?_⟩
        by_cases h3 : fr < t.fr
        · rw [if_pos h3] at h; exact absurd h (by decide)
        · rw [if_neg h3] at h
          by_cases h4 : t.fr < fr
          · exact h4
          · rw [if_neg h4] at h; exact absurd h (by decide)
      · rintro (h | ⟨-, h⟩)
        · rw [h2, less_self] at h; cases h
        · rw [if_neg (by omega), if_pos h]; decide
    · rw [if_neg h2, if_neg (by decide)]
      constructor
      · intro _
        exact .inl (Pd.less_total _ _ (by simpa using h1) (by simpa using h2))
      · intro _; decide
theorem ordT_zero {nm : ByteArray} {fr : Int} {t : Tf} : ordT nm fr t = 0 ↔ nm.toList = t.nm.toList ∧ fr = t.fr := by
  unfold ordT orI cmpB cmpI
  by_cases h1 : Op.bytesLess nm.toList t.nm.toList = true
  · rw [if_pos h1, if_neg (by decide)]
    constructor
    · intro h; exact absurd h (by decide)
    · rintro ⟨h, -⟩; rw [h, less_self] at h1; cases h1
  · rw [if_neg h1]
    by_cases h2 : nm.toList = t.nm.toList
    · rw [if_pos h2, if_pos rfl]
      by_cases h3 : fr < t.fr
      · rw [if_pos h3]; exact ⟨fun h => absurd h (by decide), fun h => by omega⟩
      · rw [if_neg h3]
        by_cases h4 : t.fr < fr
        · rw [if_pos h4]; exact ⟨fun h => absurd h (by decide), fun h => by omega⟩
        · rw [if_neg h4]; exact ⟨fun _ => ⟨h2, by omega⟩, fun _ => rfl⟩
    · rw [if_neg h2, if_neg (by decide)]
      exact ⟨fun h => absurd h (by decide), fun h => absurd h.1 h2⟩
theorem ord_ways {nm : ByteArray} {fr : Int} {t : Tf} (h1 : ¬ kLt t.nm t.fr nm fr) (h2 : ordT nm fr t ≠ 0) : kLt nm fr t.nm t.fr := by
  by_cases h3 : Op.bytesLess nm.toList t.nm.toList = true
  · exact .inl h3
  · by_cases h4 : nm.toList = t.nm.toList
    · refine .inr ⟨h4, ?_⟩
      have h5 : ¬ t.fr < fr := fun h => h1 (.inr ⟨h4.symm, h⟩)
      have h6 : fr ≠ t.fr := fun h => h2 (ordT_zero.2 ⟨h4, h⟩)
      omega
    · exact absurd (.inl (Pd.less_total _ _ (by simpa using h3) (by simpa using h4))) h1
/-- Ascending by name and beginning. -/
def ascL (l : List Tf) : Prop := ∀ (i : Nat) (t u : Tf), l[i]? = some t → l[i + 1]? = some u → kLt t.nm t.fr u.nm u.fr
theorem ascL.far {l : List Tf} (h : ascL l) : ∀ (d i : Nat) (t u : Tf), l[i]? = some t → l[i + (d + 1)]? = some u → kLt t.nm t.fr u.nm u.fr := by
  intro d
  induction d with
  | zero => exact fun i t u h1 h2 => h i t u h1 h2
  | succ d ih =>
    intro i t u h1 h2
    have hlt := (List.getElem?_eq_some_iff.1 h2).1
    obtain ⟨v, hv⟩ : ∃ v, l[i + (d + 1)]? = some v := ⟨_, List.getElem?_eq_getElem (by omega)⟩
    exact (ih i t v h1 hv).trans (h _ v u hv h2)
theorem ascL.lt {l : List Tf} (h : ascL l) {i j : Nat} {t u : Tf} (hij : i < j) (h1 : l[i]? = some t) (h2 : l[j]? = some u) : kLt t.nm t.fr u.nm u.fr :=
  h.far (j - i - 1) i t u h1 (by rw [show i + (j - i - 1 + 1) = j by omega]; exact h2)
theorem qT_after {nm : ByteArray} {t : Int} {x : Tf} (h : kLt nm t x.nm x.fr) : qT nm t x = false := by
  unfold qT
  rcases h with h | ⟨h, h'⟩
  · rw [show (x.nm.toList == nm.toList) = false from by
      simp only [beq_eq_false_iff_ne]; intro e; rw [e, less_self] at h; cases h]
    rfl
  · rw [decide_eq_false (by omega)]; simp
theorem lastK_none {nm : ByteArray} {t : Int} {l : List Tf} : ∀ n, n ≤ l.length → (∀ i x, i < n → l[i]? = some x → qT nm t x = false) → lastK nm t l n = none
  | 0, _, _ => by unfold lastK; simp
  | n + 1, hn, h => by
    obtain ⟨x, hx⟩ : ∃ x, l[n]? = some x := ⟨_, List.getElem?_eq_getElem (by omega)⟩
    rw [lastK_next hx, if_neg (by rw [h n x (by omega) hx]; decide)]
    exact lastK_none n (by omega) (fun i x hi => h i x (by omega))
theorem lastK_some {nm : ByteArray} {t : Int} {l : List Tf} {k : Nat} {x : Tf} (hk : l[k]? = some x) (hq : qT nm t x = true) : ∀ d, k + 1 + d ≤ l.length → (∀ i y, k < i → i < k + 1 + d → l[i]? = some y → qT nm t y = false) → lastK nm t l (k + 1 + d) = some x
  | 0, _, _ => by rw [Nat.add_zero, lastK_next hk, if_pos hq]
  | d + 1, hn, h => by
    obtain ⟨y, hy⟩ : ∃ y, l[k + 1 + d]? = some y := ⟨_, List.getElem?_eq_getElem (by omega)⟩
    rw [show k + 1 + (d + 1) = (k + 1 + d) + 1 by omega, lastK_next hy, if_neg (by rw [h _ y (by omega) (by omega) hy]; decide)]
    exact lastK_some hk hq d (by omega) (fun i z h1 h2 => h i z h1 (by omega))
/-- What At answers is the last version of the name that begins by then. -/
theorem place_last {nm : ByteArray} {t : Int} {l : List Tf} {n r : Nat} (ha : ascL l) (hn : l.length = n) (hr : findW (ordF nm t l) 0 n = r) :
    (∀ x, l[r]? = some x → ordF nm t l r = 0 → x.nm.toList = nm.toList ∧ lastK nm t l n = some x) ∧
    ((r < n → ordF nm t l r ≠ 0) → (r = 0 → lastK nm t l n = none) ∧ (∀ k x, r = k + 1 → l[k]? = some x → (x.nm.toList = nm.toList → lastK nm t l n = some x) ∧ (x.nm.toList ≠ nm.toList → lastK nm t l n = none))) := by
  have hle := findW_le (ordF nm t l) n 0 n (by omega) (by omega)
  rw [hr] at hle
  have hmono : ∀ a b, a ≤ b → b < n → 0 < ordF nm t l b → 0 < ordF nm t l a := fun a b hab hb h => by
    obtain ⟨u, hu⟩ : ∃ u, l[b]? = some u := ⟨_, List.getElem?_eq_getElem (by omega)⟩
    obtain ⟨v, hv⟩ : ∃ v, l[a]? = some v := ⟨_, List.getElem?_eq_getElem (by omega)⟩
    rw [ordF_at hu, ordT_pos] at h
    rw [ordF_at hv, ordT_pos]
    rcases Nat.lt_or_ge a b with h1 | h1
    · exact (ha.lt h1 hv hu).trans h
    · obtain rfl : a = b := by omega
      obtain rfl := Option.some.inj (hu.symm.trans hv)
      exact h
  obtain ⟨hb, hc⟩ := findW_is (f := ordF nm t l) (n := n) hmono n 0 n (by omega) (by omega) (by omega) (fun a ha => absurd ha (Nat.not_lt_zero a)) (fun h => absurd h (Nat.lt_irrefl _))
  rw [hr] at hb hc
  have hafter : ∀ i y, r < i → l[i]? = some y → qT nm t y = false := fun i y hi hy => by
    have hin := (List.getElem?_eq_some_iff.1 hy).1
    obtain ⟨u, hu⟩ : ∃ u, l[r]? = some u := ⟨_, List.getElem?_eq_getElem (by omega)⟩
    have h1 := hc (by omega)
    rw [ordF_at hu, ordT_pos] at h1
    have h2 := ha.lt hi hu hy
    by_cases h3 : ordT nm t u = 0
    · obtain ⟨e1, e2⟩ := ordT_zero.1 h3
      refine qT_after ?_
      rcases h2 with h2 | ⟨h2, h2'⟩
      · exact .inl (e1 ▸ h2)
      · exact .inr ⟨e1.trans h2, by omega⟩
    · exact qT_after ((ord_ways h1 h3).trans h2)
  constructor
  · intro x hx h0
    have hrn := (List.getElem?_eq_some_iff.1 hx).1
    rw [ordF_at hx] at h0
    obtain ⟨e1, e2⟩ := ordT_zero.1 h0
    refine ⟨e1.symm, ?_⟩
    have := lastK_some (nm := nm) (t := t) hx (by unfold qT; rw [e1, e2]; simp) (n - (r + 1)) (by omega) (fun i y h1 _ h2 => hafter i y h1 h2)
    rwa [show r + 1 + (n - (r + 1)) = n by omega] at this
  · intro hne
    have hat : ∀ i y, r ≤ i → l[i]? = some y → qT nm t y = false := fun i y hi hy => by
      rcases Nat.lt_or_ge r i with h | h
      · exact hafter i y h hy
      · obtain rfl : r = i := by omega
        have hin := (List.getElem?_eq_some_iff.1 hy).1
        have h1 := hc (by omega)
        have h2 := hne (by omega)
        rw [ordF_at hy] at h1 h2
        rw [ordT_pos] at h1
        exact qT_after (ord_ways h1 h2)
    refine ⟨fun h0 => lastK_none n (by omega) (fun i x hi hx => hat i x (by omega) hx), fun k x hk hx => ⟨fun hx1 => ?_, fun hx1 => ?_⟩⟩
    · subst hk
      have h1 := hb k (by omega)
      rw [ordF_at hx, ordT_pos] at h1
      have hq : qT nm t x = true := by
        unfold qT
        rcases h1 with h1 | ⟨-, h1⟩
        · rw [hx1, less_self] at h1; cases h1
        · rw [hx1, decide_eq_true (by omega)]; simp
      have := lastK_some (nm := nm) (t := t) hx hq (n - (k + 1)) (by omega) (fun i y h1 _ h2 => hat i y (by omega) h2)
      rwa [show k + 1 + (n - (k + 1)) = n by omega] at this
    · subst hk
      have h1 := hb k (by omega)
      rw [ordF_at hx, ordT_pos] at h1
      have h2 : Op.bytesLess x.nm.toList nm.toList = true := by
        rcases h1 with h1 | ⟨h1, -⟩
        · exact h1
        · exact absurd h1 hx1
      refine lastK_none n (by omega) (fun i y hi hy => ?_)
      rcases Nat.lt_or_ge k i with h | h
      · exact hat i y (by omega) hy
      · have h3 : Op.bytesLess y.nm.toList nm.toList = true := by
          rcases Nat.lt_or_ge i k with h4 | h4
          · rcases ha.lt h4 hy hx with h5 | ⟨h5, -⟩
            · exact Pd.less_trans _ _ _ h5 h2
            · rw [h5]; exact h2
          · obtain rfl : i = k := by omega
            obtain rfl := Option.some.inj (hx.symm.trans hy)
            exact h2
        unfold qT
        rw [show (y.nm.toList == nm.toList) = false from by
          simp only [beq_eq_false_iff_ne]; intro e; rw [e, less_self] at h3; cases h3]
        rfl
end Go.Proofs.YtpkmnefbofhjbaaGreat.Ck
namespace Go.Proofs.YtpkmnefbofhjbaaGreat.Ck
open Go Go.Lib Go.RowKit Go.Proofs.YtpkmnefbofhjbaaGreat Go.Maps

/-- -1 if a comes before b, 0 if they have one key, 1 otherwise. -/
def odR (a b : ByteArray) (x y : Int) : Int := if (Op.bytesLess a.toList b.toList || ((a.toList == b.toList) && decide (x < y))) = true then -1 else if ((a.toList == b.toList) && (x == y)) = true then 0 else 1
theorem odR_neg {a b : ByteArray} {x y : Int} : odR a b x y < 0 ↔ kLt a x b y := by
  unfold odR kLt
  by_cases h : (Op.bytesLess a.toList b.toList || ((a.toList == b.toList) && decide (x < y))) = true
  · rw [if_pos h]
    refine ⟨fun _ => ?_, fun _ => by decide⟩
    simpa using h
  · rw [if_neg h]
    constructor
    · intro g; split at g <;> omega
    · intro g; exfalso; apply h; simpa using g
theorem two_cells (w : World) (t : TypeId) (x0 x1 x2 x3 x4 x5 x6 y0 y1 y2 y3 y4 y5 y6 : Value) :
    ((w.alloc (.cells #[x0, x1, x2, x3, x4, x5, x6] t)).alloc (.cells #[y0, y1, y2, y3, y4, y5, y6] t)).cell? ⟨w.heap.size, 0, none⟩ = some x0 ∧ ((w.alloc (.cells #[x0, x1, x2, x3, x4, x5, x6] t)).alloc (.cells #[y0, y1, y2, y3, y4, y5, y6] t)).cell? ⟨w.heap.size, 1, none⟩ = some x1 ∧
    ((w.alloc (.cells #[x0, x1, x2, x3, x4, x5, x6] t)).alloc (.cells #[y0, y1, y2, y3, y4, y5, y6] t)).cell? ⟨w.heap.size + 1, 0, none⟩ = some y0 ∧ ((w.alloc (.cells #[x0, x1, x2, x3, x4, x5, x6] t)).alloc (.cells #[y0, y1, y2, y3, y4, y5, y6] t)).cell? ⟨w.heap.size + 1, 1, none⟩ = some y1 := by
  have hA := (Blk.new w t #[x0, x1, x2, x3, x4, x5, x6]).alloc (.cells #[y0, y1, y2, y3, y4, y5, y6] t)
  have hB := Blk.new (w.alloc (.cells #[x0, x1, x2, x3, x4, x5, x6] t)) t #[y0, y1, y2, y3, y4, y5, y6]
  rw [World.size_alloc] at hB
  exact ⟨hA.cell 0, hA.cell 1, hB.cell 0, hB.cell 1⟩

set_option maxRecDepth 100000 in
set_option maxHeartbeats 8000000 in
theorem refOrder_is (a b : ByteArray) (x y : Int) (x2 x3 x4 x5 x6 y2 y3 y4 y5 y6 : Value) {o : Int} (ho : odR a b x y = o) (w : World) :
    Calls Tryz.prog 19 #[.agg #[.string a, .int .i64 x, x2, x3, x4, x5, x6], .agg #[.string b, .int .i64 y, y2, y3, y4, y5, y6]] w fun e w' => e = .returned (.int .i64 o) ∧ Below w.heap.size w w' := by
  have HBW : Hid (Below w.heap.size w ((w.alloc (.cells #[.string a, .int .i64 x, x2, x3, x4, x5, x6] 32)).alloc (.cells #[.string b, .int .i64 y, y2, y3, y4, y5, y6] 32))) := Lib.hid ((below_one w _).alloc (by simp) _)
  obtain ⟨c0, c1, e0, e1⟩ := two_cells w 32 (.string a) (.int .i64 x) x2 x3 x4 x5 x6 (.string b) (.int .i64 y) y2 y3 y4 y5 y6
  obtain ⟨b1, h1⟩ : ∃ z, Op.bytesLess a.toList b.toList = z := ⟨_, rfl⟩
  obtain ⟨b2, h2⟩ : ∃ z, (a.toList == b.toList) = z := ⟨_, rfl⟩
  obtain ⟨b3, h3⟩ : ∃ z, decide (x < y) = z := ⟨_, rfl⟩
  obtain ⟨b4, h4⟩ : ∃ z, (x == y) = z := ⟨_, rfl⟩
  have HO : Hid ((if (b1 || (b2 && b3)) = true then (-1 : Int) else if (b2 && b4) = true then 0 else 1) = o) := Lib.hid (by rw [← ho]; unfold odR; rw [h1, h2, h3, h4])
  clear ho
  cases b1 <;> cases b2 <;> cases b3 <;> cases b4
  all_goals
    go_enter Tryz.func19, Tryz.ntmps19
    go_wp2_with fail
    go_ret
    exact ⟨ret_i HO.out, HBW.out⟩

theorem refTarT_is {t : Tf} {v : Int} (h : tarE t = v) (w : World) (hN : TfN t) (hF : Zn.Fit t.zl) (hT : TfR w t) : Calls Tryz.prog 18 #[.agg t.cells] w fun e w' => e = .returned (.int .i64 v) ∧ Below w.heap.size w w' := by
  subst h; exact refTariff_any t w hN hF hT
set_option maxRecDepth 100000 in
set_option maxHeartbeats 16000000 in
theorem refCheckT_is {l : List Tf} {v : Int} (hv : chkT l = v) (A : Option Addr) (n c : Nat) (w : World) (hA : TLs w A l) (hn : l.length = n) (hc : n ≤ c) (hm : c ≤ maxLen) :
    Calls Tryz.prog 8 #[.slice A n c] w fun e w' => e = .returned (.int .i64 v) ∧ Below w.heap.size w w' := by
  by_cases hbig : 4096 < n
  · have hR : v = 5 := by rw [← hv]; unfold chkT; rw [if_pos (by rw [hn]; exact hbig)]
    subst hR
    have d0 : decide ((4096 : Int) < (n : Int)) = true := decide_eq_true (by omega)
    clear hA hv
    go_enter Tryz.func8, Tryz.ntmps8
    go_wp2_with fail
    go_ret
    exact ⟨rfl, Below.refl _ _⟩
  have d0 : decide ((4096 : Int) < (n : Int)) = false := decide_eq_false (by omega)
  have HV : Hid (fstN (chkAt l) 0 (n - 0) = v) := Lib.hid (by rw [← hv]; unfold chkT; rw [if_neg (by rw [hn]; exact hbig), hn, Nat.sub_zero])
  have HA := Lib.hid hA
  have HN := Lib.hid hn
  have hcm := hm
  unfold maxLen at hcm
  clear hA hv hn
  go_enter Tryz.func8, Tryz.ntmps8
  go_wp2_with fail
  clear d0
  go_loopw [3] (fun iv wr => ∃ k : Nat, iv = .int .i64 k ∧ k ≤ n ∧ Below w.heap.size w wr ∧ Hid (fstN (chkAt l) k (n - k) = v)) (fun iv _ => n - (RowKit.intOf iv).toNat)
  case atStart => exact ⟨0, rfl, Nat.zero_le _, Below.refl _ _, HV⟩
  case round =>
    obtain ⟨k, rfl, hk, hb, HF⟩ := hrel
    have HB := Lib.hid hb
    by_cases hlt : k < n
    · have hlt' : (k : Int) < (n : Int) := by omega
      obtain ⟨t, ht⟩ : ∃ t, l[k]? = some t := ⟨_, List.getElem?_eq_getElem (by rw [HN.out]; exact hlt)⟩
      obtain ⟨b, off, rfl, hl, ⟨e0, e1, e2, e3, e4, e5, e6⟩, hN, hR, hFt⟩ := HA.out k t ht
      have f := fun i => hb.cell (p := ⟨b, i, none⟩) hl
      have g0 := (f _).trans e0
      have g1 := (f _).trans e1
      have g2 := (f _).trans e2
      have g3 := (f _).trans e3
      have g4 := (f _).trans e4
      have g5 := (f _).trans e5
      have g6 := (f _).trans e6
      have HT := Lib.hid ht
      have HE0 := Lib.hid (show _ ∧ _ ∧ _ ∧ _ ∧ _ ∧ _ ∧ _ from ⟨e0, e1, e2, e3, e4, e5, e6⟩)
      have HL := Lib.hid hl
      obtain ⟨er, her⟩ : ∃ er, tarE t = er := ⟨_, rfl⟩
      have HCT := Lib.hid (fun W (h : Below w.heap.size w W) => refTarT_is her W hN hFt (hR.below h))
      have HNX := Lib.hid (fstN_next (f := chkAt l) hlt)
      simp only [Tf.cells] at HCT
      clear hb hN hR hFt e0 e1 e2 e3 e4 e5 e6 f hl
      by_cases h0 : er = 0
      · subst h0
        go_upto_region 9 with (go_at_call 18; (with_reducible refine (HCT.out _ HB.out).mono ?_); rintro e w1 ⟨rfl, h1⟩; have HB2 := Lib.hid (HB.out.trans (h1.mono HB.out.size)); clear h1 g0 g1 g2 g3 g4 g5 g6)
        by_cases hk0 : k = 0
        · subst hk0
          have HF2 : Hid (fstN (chkAt l) (0 + 1) (n - (0 + 1)) = v) := Lib.hid (by rw [← HF.out, HNX.out, if_pos (chkAt_first HT.out her)])
          clear her
          refine wp_region_quiet_below (by kernel_rfl) (by kernel_rfl) ?_
          iterate 15 (go_big_quiet_step (fail))
          refine wpQuiet_nil ?_
          intro Wq hw'
          have HB3 : Hid (Below w.heap.size w Wq) := Lib.hid (by obtain ⟨qq, rfl⟩ := hw'; exact HB2.out.trans ((below_regrown _ _ _).mono HB2.out.size))
          clear hw'
          go_wp2_with fail
          go_roundw
          case rel => exact ⟨0 + 1, by go_num, by omega, HB3.out, HF2⟩
          case measure => simp [RowKit.intOf]; omega
        · obtain ⟨m, hm'⟩ : ∃ m, k - 1 = m := ⟨_, rfl⟩
          have hkm : (k : Int) - 1 = (m : Int) := by omega
          have hk0' : (0 : Int) < (k : Int) := by omega
          have dk0 : decide ((0 : Int) < (k : Int)) = true := decide_eq_true hk0'
          have hk0n : 0 < k := by omega
          have hmn : (m : Int) < (n : Int) := by omega
          obtain ⟨t', ht'⟩ : ∃ t', l[m]? = some t' := ⟨_, List.getElem?_eq_getElem (by rw [HN.out]; omega)⟩
          obtain ⟨b', off', eA, hl', ⟨f0, f1, f2, f3, f4, f5, f6⟩, -, -, -⟩ := HA.out m t' ht'
          obtain ⟨rfl, rfl⟩ : b = b' ∧ off = off' := by cases eA; exact ⟨rfl, rfl⟩
          obtain ⟨o, ho⟩ : ∃ o, odR t'.nm t.nm t'.fr t.fr = o := ⟨_, rfl⟩
          have HCA : Hid (chkAt l k = if o < 0 then 0 else 9) := Lib.hid (by
            rw [chkAt_next HT.out her hk0, hm', ordF_at ht', ← ho]
            by_cases h : kLt t'.nm t'.fr t.nm t.fr
            · rw [if_pos (ordT_pos.2 h), if_pos (odR_neg.2 h)]
            · rw [if_neg (fun x => h (ordT_pos.1 x)), if_neg (fun x => h (odR_neg.1 x))])
          have HCO := Lib.hid (fun W => refOrder_is t'.nm t.nm t'.fr t.fr (.bool t'.sp) (.slice t'.ZA t'.zn t'.zc) (.slice t'.BA t'.bn t'.bc) (.slice t'.RA t'.rn t'.rc) (.slice t'.DA t'.dn t'.dc) (.bool t.sp) (.slice t.ZA t.zn t.zc) (.slice t.BA t.bn t.bc) (.slice t.RA t.rn t.rc) (.slice t.DA t.dn t.dc) ho W)
          obtain ⟨e0, e1, e2, e3, e4, e5, e6⟩ := HE0.out
          have f := fun i => HB2.out.cell (p := ⟨b, i, none⟩) HL.out
          have g0 := fun d os => cell_regrown ((f _).trans f0) d os
          have g1 := fun d os => cell_regrown ((f _).trans f1) d os
          have g2 := fun d os => cell_regrown ((f _).trans f2) d os
          have g3 := fun d os => cell_regrown ((f _).trans f3) d os
          have g4 := fun d os => cell_regrown ((f _).trans f4) d os
          have g5 := fun d os => cell_regrown ((f _).trans f5) d os
          have g6 := fun d os => cell_regrown ((f _).trans f6) d os
          have r0 := fun d os => cell_regrown ((f _).trans e0) d os
          have r1 := fun d os => cell_regrown ((f _).trans e1) d os
          have r2 := fun d os => cell_regrown ((f _).trans e2) d os
          have r3 := fun d os => cell_regrown ((f _).trans e3) d os
          have r4 := fun d os => cell_regrown ((f _).trans e4) d os
          have r5 := fun d os => cell_regrown ((f _).trans e5) d os
          have r6 := fun d os => cell_regrown ((f _).trans e6) d os
          clear f f0 f1 f2 f3 f4 f5 f6 e0 e1 e2 e3 e4 e5 e6 her ho ht' hl' eA hm'
          refine wp_region_quiet_below (by kernel_rfl) (by kernel_rfl) ?_
          iterate 15 (go_big_quiet_step ((with_reducible exact Calls.regrown_of (HCO.out _))))
          refine wpQuiet_nil ?_
          intro Wq hw'
          have HB3 : Hid (Below w.heap.size w Wq) := Lib.hid (by obtain ⟨qq, rfl⟩ := hw'; exact HB2.out.trans ((below_regrown _ _ _).mono HB2.out.size))
          clear hw' g0 g1 g2 g3 g4 g5 g6 r0 r1 r2 r3 r4 r5 r6
          by_cases ho : o < 0
          · have d1 : decide ((0 : Int) ≤ o) = false := decide_eq_false (by omega)
            have HF2 : Hid (fstN (chkAt l) (k + 1) (n - (k + 1)) = v) := Lib.hid (by rw [← HF.out, HNX.out, HCA.out, if_pos ho, if_pos rfl])
            go_wp2_with fail
            go_roundw
            case rel => exact ⟨k + 1, by go_num, by omega, HB3.out, HF2⟩
            case measure => simp [RowKit.intOf]; omega
          · have d1 : decide ((0 : Int) ≤ o) = true := decide_eq_true (by omega)
            have hv : v = 9 := by rw [← HF.out, HNX.out, HCA.out, if_neg ho, if_neg (by decide)]
            subst hv
            go_wp2_with fail
            go_ret
            exact ⟨rfl, HB3.out⟩
      · have hv : v = er := by rw [← HF.out, HNX.out, chkAt_bad HT.out (by rw [her]; exact h0), her, if_neg h0]
        subst hv
        have d0 : (v != 0) = true := by simpa using h0
        clear her
        go_wp2_with (go_at_call 18; (with_reducible refine (HCT.out _ HB.out).mono ?_); rintro e w1 ⟨rfl, h1⟩; have HB2 := Lib.hid (HB.out.trans (h1.mono HB.out.size)); clear h1 g0 g1 g2 g3 g4 g5 g6)
        go_ret
        exact ⟨rfl, HB2.out⟩
    · obtain rfl : k = n := by omega
      have hz : v = 0 := by rw [← HF.out, fstN_end]
      subst hz
      have hd : decide ((k : Int) < (k : Int)) = false := decide_eq_false (by omega)
      go_wp2_with fail
      go_ret
      exact ⟨rfl, HB.out⟩
end Go.Proofs.YtpkmnefbofhjbaaGreat.Ck
namespace Go.Proofs.YtpkmnefbofhjbaaGreat
open Go Go.Lib Go.RowKit Go.Proofs.YtpkmnefbofhjbaaGreat Go.Maps Ck

set_option maxRecDepth 100000 in
set_option maxHeartbeats 16000000 in
theorem walkTariffChecks (A : Option Addr) (n c : Nat) (l : List Tf) (w : World) (hA : TLw w A l) (hn : l.length = n) (hc : n ≤ c) (hm : c ≤ maxLen) :
    Calls Tryz.prog 3 #[.slice A n c] w fun e w' => e = .returned (.bool true) ∧ Below w.heap.size w w' := by
  have HSM := Lib.hid (smallL_any A n c l w hA hn hc hm)
  obtain ⟨x, hx⟩ : ∃ x, chkT l = x := ⟨_, rfl⟩
  have HP := Lib.hid (fun (hf : n ≤ 8 ∧ ∀ (k : Nat) (t : Tf), l[k]? = some t → Zn.Fit t.zl) W (h : Below w.heap.size w W) => checkT_is hx A n c W ((hA.below h).tls hf.2) hn hc hm)
  have HR := Lib.hid (fun (hf : n ≤ 8 ∧ ∀ (k : Nat) (t : Tf), l[k]? = some t → Zn.Fit t.zl) W (h : Below w.heap.size w W) => refCheckT_is hx A n c W ((hA.below h).tls hf.2) hn hc hm)
  have HAW := Lib.hid (fun W => awakeT_any W)
  clear hA hx hn
  go_enter Tryz.func3, Tryz.ntmps3
  go_wp2_with fail
  refine HSM.out.mono ?_
  rintro e w1 ⟨v, rfl, hv, hb1⟩
  have HB1 := Lib.hid hb1
  clear hb1
  cases v
  · clear hv
    go_wp2_with (go_at_call 6; (with_reducible refine (HAW.out _).mono ?_); rintro e w3 ⟨rfl, hb3⟩; have HB3 := Lib.hid (HB1.out.trans (hb3.mono HB1.out.size)); clear hb3)
    go_ret
    exact ⟨rfl, HB3.out⟩
  have HP1 := Lib.hid (HP.out (hv rfl))
  have HR1 := Lib.hid (HR.out (hv rfl))
  clear hv
  go_wp2_with (first
    | (go_at_call 7; (with_reducible refine (HP1.out _ HB1.out).mono ?_); rintro e w2 ⟨rfl, hb⟩; have HB2 := Lib.hid (HB1.out.trans (hb.mono HB1.out.size)); clear hb)
    | (go_at_call 8; (with_reducible refine (HR1.out _ HB2.out).mono ?_); rintro e w3 ⟨rfl, hb⟩; have HB3 := Lib.hid (HB2.out.trans (hb.mono HB2.out.size)); clear hb)
    | (go_at_call 6; (with_reducible refine (HAW.out _).mono ?_); rintro e w4 ⟨rfl, hb⟩; have HB4 := Lib.hid (HB3.out.trans (hb.mono HB3.out.size)); clear hb))
  go_ret
  exact ⟨rfl, HB4.out⟩
end Go.Proofs.YtpkmnefbofhjbaaGreat
