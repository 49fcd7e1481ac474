/- The order of versions of tariffs, and a search by halving; walks: cmp.Compare, cmp.Or, compare. Lists of tariffs in memory; walks: the closure of place, sort.Find over it, place. Walk: Check of a list of tariffs. Walks: interval.Valid and Contains; the closure of Changes; lists.Filter over it. Walks: Changes, of the program and of the reference. How lists of tariffs that come in read. Walk: the laws' small. -/
import Derived.Test.YtpkmnefbofhjbaaGreatCkT
import Derived.Deep.RegionHeld3
import Derived.Lib.QuietBelow
import Derived.Test.YtpkmnefbofhjbaaGreatCkH
import Derived.Maps.AppendAt
import Derived.Test.YtpkmnefbofhjbaaGreatCkTA
import Derived.SizedLaws
namespace Go.Proofs.YtpkmnefbofhjbaaGreat.Ck
open Go Go.Lib Go.RowKit Go.Proofs.YtpkmnefbofhjbaaGreat Go.Maps


def cmpI (a b : Int) : Int := if a < b then -1 else if b < a then 1 else 0
theorem nanI_any (x : Int) (w : World) : Calls Tryz.prog 83 #[.int .i64 x] w fun e w' => e = .returned (.bool false) ∧ w' = w := by
  go_enter Tryz.func83, Tryz.ntmps83
  go_wp2
  go_ret
  exact ⟨ret_bool (by simp), rfl⟩
theorem nanS_any (s : ByteArray) (w : World) : Calls Tryz.prog 82 #[.string s] w fun e w' => e = .returned (.bool false) ∧ w' = w := by
  go_enter Tryz.func82, Tryz.ntmps82
  go_wp2
  go_ret
  exact ⟨ret_bool (by simp), rfl⟩
theorem cmpI_is {a b o : Int} (h : cmpI a b = o) (w : World) : Calls Tryz.prog 42 #[.int .i64 a, .int .i64 b] w fun e w' => e = .returned (.int .i64 o) ∧ w' = w := by
  subst h
  have HN := Lib.hid (fun x W => nanI_any x W)
  cases h1 : decide (a < b)
  · cases h2 : decide (b < a)
    · have HR : Hid (cmpI a b = 0) := Lib.hid (by unfold cmpI; rw [if_neg (of_decide_eq_false h1), if_neg (of_decide_eq_false h2)])
      go_enter Tryz.func42, Tryz.ntmps42
      go_wp2_with (go_at_call 83; (with_reducible refine (HN.out _ _).mono ?_); rintro e w1 ⟨rfl, rfl⟩)
      go_ret
      exact ⟨ret_i HR.out.symm, rfl⟩
    · have HR : Hid (cmpI a b = 1) := Lib.hid (by unfold cmpI; rw [if_neg (of_decide_eq_false h1), if_pos (of_decide_eq_true h2)])
      go_enter Tryz.func42, Tryz.ntmps42
      go_wp2_with (go_at_call 83; (with_reducible refine (HN.out _ _).mono ?_); rintro e w1 ⟨rfl, rfl⟩)
      go_ret
      exact ⟨ret_i HR.out.symm, rfl⟩
  · have HR : Hid (cmpI a b = -1) := Lib.hid (by unfold cmpI; rw [if_pos (of_decide_eq_true h1)])
    go_enter Tryz.func42, Tryz.ntmps42
    go_wp2_with (go_at_call 83; (with_reducible refine (HN.out _ _).mono ?_); rintro e w1 ⟨rfl, rfl⟩)
    go_ret
    exact ⟨ret_i HR.out.symm, rfl⟩
theorem less_self : ∀ l : List UInt8, Op.bytesLess l l = false
  | [] => rfl
  | c :: l => by simp [Op.bytesLess, less_self l, UInt8.lt_irrefl]
/-- The order of two texts. -/
def cmpB (s t : ByteArray) : Int := if Op.bytesLess s.toList t.toList = true then -1 else if s.toList = t.toList then 0 else 1
theorem cmpB_is {s t : ByteArray} {o : Int} (h : cmpB s t = o) (w : World) : Calls Tryz.prog 41 #[.string s, .string t] w fun e w' => e = .returned (.int .i64 o) ∧ w' = w := by
  subst h
  have HN := Lib.hid (fun x W => nanS_any x W)
  cases h1 : Op.bytesLess s.toList t.toList
  · cases h2 : (s.toList == t.toList)
    · have HR : Hid (cmpB s t = 1) := Lib.hid (by unfold cmpB; rw [if_neg (by simp [h1]), if_neg (by simpa using h2)])
      go_enter Tryz.func41, Tryz.ntmps41
      go_wp2_with (go_at_call 82; (with_reducible refine (HN.out _ _).mono ?_); rintro e w1 ⟨rfl, rfl⟩)
      go_ret
      exact ⟨ret_i HR.out.symm, rfl⟩
    · have HR : Hid (cmpB s t = 0) := Lib.hid (by unfold cmpB; rw [if_neg (by simp [h1]), if_pos (by simpa using h2)])
      go_enter Tryz.func41, Tryz.ntmps41
      go_wp2_with (go_at_call 82; (with_reducible refine (HN.out _ _).mono ?_); rintro e w1 ⟨rfl, rfl⟩)
      go_ret
      exact ⟨ret_i HR.out.symm, rfl⟩
  · have HR : Hid (cmpB s t = -1) := Lib.hid (by unfold cmpB; rw [if_pos h1])
    go_enter Tryz.func41, Tryz.ntmps41
    go_wp2_with (go_at_call 82; (with_reducible refine (HN.out _ _).mono ?_); rintro e w1 ⟨rfl, rfl⟩)
    go_ret
    exact ⟨ret_i HR.out.symm, rfl⟩
def orI (x y : Int) : Int := if x = 0 then y else x
/-- The order of a name and an instant, and a tariff's. -/
def ordT (nm : ByteArray) (fr : Int) (t : Tf) : Int := orI (cmpB nm t.nm) (cmpI fr t.fr)
set_option maxHeartbeats 4000000 in
theorem orI_any (x y : Int) (g : Nat) (t : TypeId) (w : World) (h : Blk w g t #[.int .i64 x, .int .i64 y]) :
    Calls Tryz.prog 40 #[.slice (some ⟨g, 0, none⟩) 2 2] w fun e w' => e = .returned (.int .i64 (orI x y)) ∧ w' = w := by
  have c0 := h.cell 0
  have c1 := h.cell 1
  clear h
  go_enter Tryz.func40, Tryz.ntmps40
  go_wp2_with fail
  go_loopw [8] (fun iv wr => wr = w ∧ (iv = .int .i64 0 ∨ (iv = .int .i64 1 ∧ x = 0) ∨ (iv = .int .i64 2 ∧ x = 0 ∧ y = 0))) (fun iv _ => 2 - (RowKit.intOf iv).toNat)
  case atStart => exact ⟨rfl, .inl rfl⟩
  case round =>
    obtain ⟨rfl, hr⟩ := hrel
    rcases hr with rfl | ⟨rfl, rfl⟩ | ⟨rfl, rfl, rfl⟩
    · by_cases hx : x = 0
      · subst hx
        go_wp2_with fail
        go_roundw
        case rel => simp
        case measure => simp [RowKit.intOf]
      · have HR : Hid (orI x y = x) := Lib.hid (if_neg hx)
        have hq : (x != 0) = true := by simp [hx]
        clear hx
        go_wp2_with fail
        go_ret
        exact ⟨ret_i HR.out.symm, rfl⟩
    · by_cases hx : y = 0
      · subst hx
        go_wp2_with fail
        go_roundw
        case rel => simp
        case measure => simp [RowKit.intOf]
      · have HR : Hid (orI 0 y = y) := Lib.hid (if_pos rfl)
        have hq : (y != 0) = true := by simp [hx]
        clear hx
        go_wp2_with fail
        go_ret
        exact ⟨ret_i HR.out.symm, rfl⟩
    · go_wp2_with fail
      go_ret
      exact ⟨rfl, rfl⟩
set_option maxRecDepth 100000 in
set_option maxHeartbeats 8000000 in
theorem ordT_is {nm : ByteArray} {fr : Int} {t : Tf} {o : Int} (h : ordT nm fr t = o) (w : World) : Calls Tryz.prog 17 #[.string nm, .int .i64 fr, .agg #[.string t.nm, .int .i64 t.fr, .bool t.sp, .slice t.ZA t.zn t.zc, .slice t.BA t.bn t.bc, .slice t.RA t.rn t.rc, .slice t.DA t.dn t.dc]] w fun e w' => e = .returned (.int .i64 o) ∧ Below w.heap.size w w' := by
  subst h
  obtain ⟨L, hL⟩ : ∃ L, w.alloc (.cells #[.string t.nm, .int .i64 t.fr, .bool t.sp, .slice t.ZA t.zn t.zc, .slice t.BA t.bn t.bc, .slice t.RA t.rn t.rc, .slice t.DA t.dn t.dc] 32) = L := ⟨_, rfl⟩
  obtain ⟨g, hg⟩ : ∃ g, w.heap.size = g := ⟨_, rfl⟩
  have hb : Below w.heap.size w L := hL ▸ below_one w _
  have hk : Blk L g 32 #[.string t.nm, .int .i64 t.fr, .bool t.sp, .slice t.ZA t.zn t.zc, .slice t.BA t.bn t.bc, .slice t.RA t.rn t.rc, .slice t.DA t.dn t.dc] := hL ▸ hg ▸ Blk.new w _ _
  have c0 := hk.cell 0
  have c1 := hk.cell 1
  have HB := Lib.hid hb
  obtain ⟨x, hx⟩ : ∃ x, cmpB nm t.nm = x := ⟨_, rfl⟩
  obtain ⟨y, hy⟩ : ∃ y, cmpI fr t.fr = y := ⟨_, rfl⟩
  have HX := Lib.hid (fun W => cmpB_is hx W)
  have HY := Lib.hid (fun W => cmpI_is hy W)
  have HO : Hid (ordT nm fr t = orI x y) := Lib.hid (by unfold ordT; rw [hx, hy])
  clear hb hk hx hy
  go_enter Tryz.func17, Tryz.ntmps17
  go_wp2_with fail
  clear hL hg
  go_region_held3 (fun w' => w'.cell? ⟨g, 0, none⟩ = some (.string t.nm) ∧ w'.cell? ⟨g, 1, none⟩ = some (.int .i64 t.fr)) (go_keep)
    (first
      | (go_at_call 41; (with_reducible refine (HX.out _).mono ?_); rintro e w1 ⟨rfl, rfl⟩)
      | (go_at_call 42; (with_reducible refine (HY.out _).mono ?_); rintro e w1 ⟨rfl, rfl⟩)
      | (go_at_call 40; (refine (orI_any _ _ _ _ _ (Blk.new _ _ _).drew).mono ?_); rintro e w1 ⟨rfl, rfl⟩))
  go_wp2_with fail
  go_ret
  exact ⟨ret_i HO.out.symm, (HB.out.alloc HB.out.size _).drew⟩
/-- The search by halving, between two places. -/
def findW (f : Nat → Int) (i j : Nat) : Nat := if h : i < j then (if 0 < f ((i + j) / 2) then findW f ((i + j) / 2 + 1) j else findW f i ((i + j) / 2)) else i
termination_by j - i
theorem findW_end {f : Nat → Int} {i j : Nat} (h : ¬ i < j) : findW f i j = i := by rw [findW, dif_neg h]
theorem findW_up {f : Nat → Int} {i j : Nat} (h : i < j) (h2 : 0 < f ((i + j) / 2)) : findW f i j = findW f ((i + j) / 2 + 1) j := by rw [findW, dif_pos h, if_pos h2]
theorem findW_down {f : Nat → Int} {i j : Nat} (h : i < j) (h2 : ¬ 0 < f ((i + j) / 2)) : findW f i j = findW f i ((i + j) / 2) := by rw [findW, dif_pos h, if_neg h2]
theorem findW_le (f : Nat → Int) : ∀ (n i j : Nat), j - i = n → i ≤ j → i ≤ findW f i j ∧ findW f i j ≤ j := by
  intro n
  induction n using Nat.strongRecOn with
  | _ n ih =>
    intro i j hn hij
    by_cases h : i < j
    · by_cases h2 : 0 < f ((i + j) / 2)
      · rw [findW_up h h2]
        have := ih (j - ((i + j) / 2 + 1)) (by omega) ((i + j) / 2 + 1) j rfl (by omega)
        omega
      · rw [findW_down h h2]
        have := ih ((i + j) / 2 - i) (by omega) i ((i + j) / 2) rfl (by omega)
        omega
    · rw [findW_end h]; omega
/-- What is found where the function falls from above zero to zero and below. -/
theorem findW_is {f : Nat → Int} {n : Nat} (hm : ∀ a b, a ≤ b → b < n → 0 < f b → 0 < f a) : ∀ (d i j : Nat), j - i = d → i ≤ j → j ≤ n → (∀ a, a < i → 0 < f a) → (j < n → ¬ 0 < f j) → (∀ a, a < findW f i j → 0 < f a) ∧ (findW f i j < n → ¬ 0 < f (findW f i j)) := by
  intro d
  induction d using Nat.strongRecOn with
  | _ d ih =>
    intro i j hd hij hjn h1 h2
    by_cases h : i < j
    · by_cases h3 : 0 < f ((i + j) / 2)
      · rw [findW_up h h3]
        exact ih (j - ((i + j) / 2 + 1)) (by omega) ((i + j) / 2 + 1) j rfl (by omega) hjn (fun a ha => hm a _ (by omega) (by omega) h3) h2
      · rw [findW_down h h3]
        exact ih ((i + j) / 2 - i) (by omega) i ((i + j) / 2) rfl (by omega) (by omega) h1 (fun _ => h3)
    · have : i = j := by omega
      subst this
      rw [findW_end h]
      exact ⟨h1, h2⟩
end Go.Proofs.YtpkmnefbofhjbaaGreat.Ck
namespace Go.Proofs.YtpkmnefbofhjbaaGreat.Ck
open Go Go.Lib Go.RowKit Go.Proofs.YtpkmnefbofhjbaaGreat Go.Maps

/-- A slice that reads as a list of tariffs. -/
def TLs (w : World) (A : Option Addr) (l : List Tf) : Prop := ∀ (k : Nat) (t : Tf), l[k]? = some t → ∃ (b off : Nat), A = some ⟨b, off, none⟩ ∧ b < w.heap.size ∧ (w.cell? ⟨b, off + k * 7, none⟩ = some (.string t.nm) ∧ w.cell? ⟨b, off + k * 7 + 1, none⟩ = some (.int .i64 t.fr) ∧ w.cell? ⟨b, off + k * 7 + 2, none⟩ = some (.bool t.sp) ∧
  w.cell? ⟨b, off + k * 7 + 3, none⟩ = some (.slice t.ZA t.zn t.zc) ∧ w.cell? ⟨b, off + k * 7 + 4, none⟩ = some (.slice t.BA t.bn t.bc) ∧ w.cell? ⟨b, off + k * 7 + 5, none⟩ = some (.slice t.RA t.rn t.rc) ∧ w.cell? ⟨b, off + k * 7 + 6, none⟩ = some (.slice t.DA t.dn t.dc)) ∧ TfN t ∧ TfR w t ∧ Zn.Fit t.zl
theorem TLs.below {w w' : World} {A : Option Addr} {l : List Tf} (h : TLs w A l) (hb : Below w.heap.size w w') : TLs w' A l := fun k t hk => by
  obtain ⟨b, off, e, hl, ⟨g0, g1, g2, g3, g4, g5, g6⟩, hN, hR, hF⟩ := h k t hk
  have f := fun i => hb.cell (p := ⟨b, i, none⟩) hl
  exact ⟨b, off, e, Nat.lt_of_lt_of_le hl hb.size, ⟨(f _).trans g0, (f _).trans g1, (f _).trans g2, (f _).trans g3, (f _).trans g4, (f _).trans g5, (f _).trans g6⟩, hN, hR.below hb, hF⟩
/-- The order of a name and an instant, and the k-th tariff's. -/
def ordF (nm : ByteArray) (fr : Int) (l : List Tf) (k : Nat) : Int := match l[k]? with
  | some t => ordT nm fr t
  | none => 0
theorem ordF_at {nm : ByteArray} {fr : Int} {l : List Tf} {k : Nat} {t : Tf} (h : l[k]? = some t) : ordF nm fr l k = ordT nm fr t := by unfold ordF; rw [h]
/-- The state of the closure: the name, the instant and the list lie in blocks of the call. -/
def PlS (w0 : World) (p : Nat) (nm : ByteArray) (fr : Int) (A : Option Addr) (n c : Nat) (W : World) : Prop := Below w0.heap.size w0 W ∧ Blk W p 22 #[.slice A n c] ∧ Blk W (p + 1) 9 #[.string nm] ∧ Blk W (p + 1 + 1) 3 #[.int .i64 fr]
theorem PlS.keep {w0 W W' : World} {p : Nat} {nm : ByteArray} {fr : Int} {A : Option Addr} {n c : Nat} (h : PlS w0 p nm fr A n c W) (hb : Below W.heap.size W W') : PlS w0 p nm fr A n c W' := ⟨h.1.trans (hb.mono h.1.size), h.2.1.below hb h.2.1.lt, h.2.2.1.below hb h.2.2.1.lt, h.2.2.2.below hb h.2.2.2.lt⟩
theorem PlS.quiet {w0 W Wq : World} {p : Nat} {nm : ByteArray} {fr : Int} {A : Option Addr} {n c : Nat} (h : PlS w0 p nm fr A n c W) (hw : ∃ q : Regrown, Wq = Go.Sort.grow (redrawn W q.d) q.os) : PlS w0 p nm fr A n c Wq := by
  obtain ⟨q, rfl⟩ := hw; exact h.keep (below_regrown _ _ _)
set_option maxRecDepth 100000 in
set_option maxHeartbeats 8000000 in
theorem place1_is {nm : ByteArray} {fr : Int} {l : List Tf} {k : Nat} {o : Int} (hk : k < l.length) (ho : ordF nm fr l k = o) (A : Option Addr) (n c : Nat) (w0 : World) (hA : TLs w0 A l) (hn : l.length = n) (hc : n ≤ c) (hm : c ≤ maxLen) (p : Nat) (W : World) (hS : PlS w0 p nm fr A n c W) :
    Calls Tryz.prog 49 #[.int .i64 k, .pointer (some ⟨p + 1, 0, none⟩), .pointer (some ⟨p + 1 + 1, 0, none⟩), .pointer (some ⟨p, 0, none⟩)] W fun e w' => e = .returned (.int .i64 o) ∧ PlS w0 p nm fr A n c w' := by
  obtain ⟨t, ht⟩ : ∃ t, l[k]? = some t := ⟨_, List.getElem?_eq_getElem hk⟩
  rw [ordF_at ht] at ho
  obtain ⟨b, off, rfl, hl, ⟨e0, e1, e2, e3, e4, e5, e6⟩, -, -, -⟩ := hA k t ht
  have f := fun i => hS.1.cell (p := ⟨b, i, none⟩) hl
  have c0 := fun d os => cell_regrown (hS.2.1.cell 0) d os
  have c1 := fun d os => cell_regrown (hS.2.2.1.cell 0) d os
  have c2 := fun d os => cell_regrown (hS.2.2.2.cell 0) d os
  have g0 := fun d os => cell_regrown ((f _).trans e0) d os
  have g1 := fun d os => cell_regrown ((f _).trans e1) d os
  have g2 := fun d os => cell_regrown ((f _).trans e2) d os
  have g3 := fun d os => cell_regrown ((f _).trans e3) d os
  have g4 := fun d os => cell_regrown ((f _).trans e4) d os
  have g5 := fun d os => cell_regrown ((f _).trans e5) d os
  have g6 := fun d os => cell_regrown ((f _).trans e6) d os
  have HC := Lib.hid (fun W' => ordT_is ho W')
  have HS := Lib.hid hS
  have hkn : (k : Int) < (n : Int) := by omega
  have hcn := hc
  unfold maxLen at hm
  clear hS hA hn ho hk ht e0 e1 e2 e3 e4 e5 e6 f hl
  go_enter Tryz.func49, Tryz.ntmps49
  go_wp2_with fail
  refine wp_region_quiet_below (by kernel_rfl) (by kernel_rfl) ?_
  iterate 8 (go_big_quiet_step ((with_reducible exact Calls.regrown_of (HC.out _))))
  refine wpQuiet_nil ?_
  intro Wq hw'
  have HS2 := Lib.hid (HS.out.quiet hw')
  clear hw' c0 c1 c2 g0 g1 g2 g3 g4 g5 g6
  go_wp2_with fail
  go_ret
  exact ⟨rfl, HS2.out⟩
set_option maxRecDepth 100000 in
set_option maxHeartbeats 8000000 in
theorem find_is {nm : ByteArray} {fr : Int} {l : List Tf} (A : Option Addr) (n c : Nat) (h6 : n ≤ 1000000) (w0 : World) (hA : TLs w0 A l) (hn : l.length = n) (hc : n ≤ c) (hm : c ≤ maxLen) (p : Nat) (W : World) (hS : PlS w0 p nm fr A n c W) {r : Nat} {q : Bool} (hr : findW (ordF nm fr l) 0 n = r) (hq : (decide (r < n) && (ordF nm fr l r == 0)) = q) :
    Calls Tryz.prog 48 #[.int .i64 n, .func (.func 49) #[] #[.pointer (some ⟨p + 1, 0, none⟩), .pointer (some ⟨p + 1 + 1, 0, none⟩), .pointer (some ⟨p, 0, none⟩)]] W fun e w' => e = .returned (.tuple #[.int .i64 r, .bool q]) ∧ PlS w0 p nm fr A n c w' := by
  have HC := Lib.hid (fun k o W' (hk : k < l.length) (ho : ordF nm fr l k = o) (h : PlS w0 p nm fr A n c W') => place1_is hk ho A n c w0 hA hn hc hm p W' h)
  have HS := Lib.hid hS
  have HR := Lib.hid hr; have HQ := Lib.hid hq; have HN := Lib.hid hn
  clear hS hA hr hq hn
  go_enter Tryz.func48, Tryz.ntmps48
  go_wp2_with fail
  go_loopw [4, 6] (fun iv jv wr => ∃ i j : Nat, iv = .int .i64 i ∧ jv = .int .i64 j ∧ i ≤ j ∧ j ≤ n ∧ Hid (findW (ordF nm fr l) i j = r) ∧ PlS w0 p nm fr A n c wr) (fun iv jv _ => (RowKit.intOf jv).toNat - (RowKit.intOf iv).toNat)
  case atStart => exact ⟨0, n, rfl, rfl, Nat.zero_le _, Nat.le_refl _, HR, HS.out⟩
  case round =>
    obtain ⟨i, j, rfl, rfl, hij, hjn, HF, hst⟩ := hrel
    have HST := Lib.hid hst
    clear hst
    by_cases hlt : i < j
    · have hlt' : (i : Int) < (j : Int) := by omega
      obtain ⟨h, hh⟩ : ∃ h, (i + j) / 2 = h := ⟨_, rfl⟩
      have hh1 : i ≤ h := by omega
      have hh2 : h < j := by omega
      have hw1 : IntKind.u64.wrap ((i : Int) + (j : Int)) = (i : Int) + (j : Int) := by rw [IntKind.wrap_u64]; omega
      have hw2 : ((i : Int) + (j : Int)) / 2 = (h : Int) := by omega
      obtain ⟨o, ho⟩ : ∃ o, ordF nm fr l h = o := ⟨_, rfl⟩
      have HCL := Lib.hid (HC.out h o wr (by rw [HN.out]; omega) ho HST.out)
      by_cases h0 : 0 < o
      · have HF2 : Hid (findW (ordF nm fr l) (h + 1) j = r) := Lib.hid (by rw [← HF.out, findW_up hlt (by rw [hh, ho]; exact h0), hh])
        have d0 := decide_eq_true h0
        clear ho hh
        go_wp2_with (go_at_call 49; (with_reducible refine HCL.out.mono ?_); rintro e w1 ⟨rfl, h1⟩; have HS1 := Lib.hid h1; clear h1)
        go_roundw
        case rel => exact ⟨h + 1, j, by go_num, rfl, by omega, by omega, HF2, HS1.out⟩
        case measure => simp [RowKit.intOf]; omega
      · have HF2 : Hid (findW (ordF nm fr l) i h = r) := Lib.hid (by rw [← HF.out, findW_down hlt (by rw [hh, ho]; exact h0), hh])
        have d0 := decide_eq_false h0
        clear ho hh
        go_wp2_with (go_at_call 49; (with_reducible refine HCL.out.mono ?_); rintro e w1 ⟨rfl, h1⟩; have HS1 := Lib.hid h1; clear h1)
        go_roundw
        case rel => exact ⟨i, h, rfl, rfl, by omega, by omega, HF2, HS1.out⟩
        case measure => simp [RowKit.intOf]; omega
    · obtain rfl : i = j := by omega
      have hir : i = r := by rw [← HF.out, findW_end hlt]
      subst hir
      have d1 : decide ((i : Int) < (i : Int)) = false := decide_eq_false (by omega)
      by_cases hin : i < n
      · have hin' : (i : Int) < (n : Int) := by omega
        have d2 := decide_eq_true hin'
        obtain ⟨o, ho⟩ : ∃ o, ordF nm fr l i = o := ⟨_, rfl⟩
        have HCL := Lib.hid (HC.out i o wr (by rw [HN.out]; omega) ho HST.out)
        have HQ2 : Hid (q = (o == 0)) := Lib.hid (by rw [← HQ.out, ho, decide_eq_true hin, Bool.true_and])
        clear ho
        go_wp2_with (go_at_call 49; (with_reducible refine HCL.out.mono ?_); rintro e w1 ⟨rfl, h1⟩; have HS1 := Lib.hid h1; clear h1)
        go_ret2
        exact ⟨by rw [HQ2.out] <;> rfl, HS1.out⟩
      · have d2 : decide ((i : Int) < (n : Int)) = false := decide_eq_false (by omega)
        have HQ2 : Hid (q = false) := Lib.hid (by rw [← HQ.out, decide_eq_false hin, Bool.false_and])
        go_wp2_with fail
        go_ret2
        exact ⟨by rw [HQ2.out] <;> rfl, HST.out⟩
set_option maxRecDepth 100000 in
set_option maxHeartbeats 8000000 in
/-- Where a version of a name from an instant on is or would be, and whether it is there. -/
theorem placeT_is {nm : ByteArray} {fr : Int} {l : List Tf} (A : Option Addr) (n c : Nat) (h6 : n ≤ 1000000) (w : World) (hA : TLs w A l) (hn : l.length = n) (hc : n ≤ c) (hm : c ≤ maxLen) {r : Nat} {q : Bool} (hr : findW (ordF nm fr l) 0 n = r) (hq : (decide (r < n) && (ordF nm fr l r == 0)) = q) :
    Calls Tryz.prog 21 #[.slice A n c, .string nm, .int .i64 fr] w fun e w' => e = .returned (.tuple #[.int .i64 r, .bool q]) ∧ Below w.heap.size w w' := by
  have hb1 := ((below_one w (.cells #[.slice A n c] 22)).alloc (by simp) (.cells #[.string nm] 9)).alloc (by simp; omega) (.cells #[.int .i64 fr] 3)
  have hB1 := ((Blk.new w 22 #[.slice A n c]).alloc (.cells #[.string nm] 9)).alloc (.cells #[.int .i64 fr] 3)
  have hB2 := (Blk.new (w.alloc (.cells #[.slice A n c] 22)) 9 #[.string nm]).alloc (.cells #[.int .i64 fr] 3)
  have hB3 := Blk.new ((w.alloc (.cells #[.slice A n c] 22)).alloc (.cells #[.string nm] 9)) 3 #[.int .i64 fr]
  rw [show (w.alloc (.cells #[.slice A n c] 22)).heap.size = w.heap.size + 1 by simp] at hB2
  rw [show ((w.alloc (.cells #[.slice A n c] 22)).alloc (.cells #[.string nm] 9)).heap.size = w.heap.size + 1 + 1 by simp] at hB3
  have hst : PlS w w.heap.size nm fr A n c (((w.alloc (.cells #[.slice A n c] 22)).alloc (.cells #[.string nm] 9)).alloc (.cells #[.int .i64 fr] 3)) := ⟨hb1, hB1, hB2, hB3⟩
  have c0 := hB1.cell 0
  have HF := Lib.hid (find_is A n c h6 w hA hn hc hm w.heap.size _ hst hr hq)
  clear hA hn hr hq hb1 hB1 hB2 hB3 hst
  go_enter Tryz.func21, Tryz.ntmps21
  go_wp2_with (go_at_call 48; (with_reducible refine HF.out.mono ?_); rintro e w1 ⟨rfl, h1⟩; have HS1 := Lib.hid h1; clear h1)
  go_ret2
  exact ⟨rfl, HS1.out.1⟩
end Go.Proofs.YtpkmnefbofhjbaaGreat.Ck
namespace Go.Proofs.YtpkmnefbofhjbaaGreat.Ck
open Go Go.Lib Go.RowKit Go.Proofs.YtpkmnefbofhjbaaGreat Go.Maps

/-- The error at the k-th tariff, and of the list. -/
def chkAt (l : List Tf) (k : Nat) : Int := match l[k]? with
  | some t => if tarE t ≠ 0 then tarE t else if k = 0 then 0 else if 0 < ordF t.nm t.fr l (k - 1) then 0 else 9
  | none => 0
def chkT (l : List Tf) : Int := if 4096 < l.length then 5 else fstN (chkAt l) 0 l.length
theorem chkAt_bad {l : List Tf} {k : Nat} {t : Tf} (h : l[k]? = some t) (h2 : tarE t ≠ 0) : chkAt l k = tarE t := by unfold chkAt; rw [h]; exact if_pos h2
theorem chkAt_first {l : List Tf} {t : Tf} (h : l[0]? = some t) (h2 : tarE t = 0) : chkAt l 0 = 0 := by
  unfold chkAt; rw [h]
  show (if tarE t ≠ 0 then tarE t else if (0 : Nat) = 0 then 0 else _) = 0
  rw [if_neg (by rw [h2]; decide), if_pos rfl]
theorem chkAt_next {l : List Tf} {k : Nat} {t : Tf} (h : l[k]? = some t) (h2 : tarE t = 0) (h3 : k ≠ 0) : chkAt l k = if 0 < ordF t.nm t.fr l (k - 1) then 0 else 9 := by
  unfold chkAt; rw [h]
  show (if tarE t ≠ 0 then tarE t else if k = 0 then 0 else _) = _
  rw [if_neg (by rw [h2]; decide), if_neg h3]
theorem tariff_is {t : Tf} {v : Int} (h : tarE t = v) (w : World) (hN : TfN t) (hF : Zn.Fit t.zl) (hT : TfR w t) :
    Calls Tryz.prog 16 #[.agg #[.string t.nm, .int .i64 t.fr, .bool t.sp, .slice t.ZA t.zn t.zc, .slice t.BA t.bn t.bc, .slice t.RA t.rn t.rc, .slice t.DA t.dn t.dc]] w fun e w' => e = .returned (.int .i64 v) ∧ Below w.heap.size w w' := by
  subst h; exact tariff_any t w hN hF hT
set_option maxRecDepth 100000 in
set_option maxHeartbeats 16000000 in
theorem checkT_is {l : List Tf} {v : Int} (hv : chkT l = v) (A : Option Addr) (n c : Nat) (w : World) (hA : TLs w A l) (hn : l.length = n) (hc : n ≤ c) (hm : c ≤ maxLen) :
    Calls Tryz.prog 7 #[.slice A n c] w fun e w' => e = .returned (.int .i64 v) ∧ Below w.heap.size w w' := by
  by_cases hbig : 4096 < n
  · have hR : v = 5 := by rw [← hv]; unfold chkT; rw [if_pos (by rw [hn]; exact hbig)]
    subst hR
    have d0 : decide ((4096 : Int) < (n : Int)) = true := decide_eq_true (by omega)
    clear hA hv
    go_enter Tryz.func7, Tryz.ntmps7
    go_wp2_with fail
    go_ret
    exact ⟨rfl, Below.refl _ _⟩
  have d0 : decide ((4096 : Int) < (n : Int)) = false := decide_eq_false (by omega)
  have HV : Hid (fstN (chkAt l) 0 (n - 0) = v) := Lib.hid (by rw [← hv]; unfold chkT; rw [if_neg (by rw [hn]; exact hbig), hn, Nat.sub_zero])
  have HA := Lib.hid hA
  have HN := Lib.hid hn
  have hcm := hm
  unfold maxLen at hcm
  clear hA hv hn
  go_enter Tryz.func7, Tryz.ntmps7
  go_wp2_with fail
  go_loopw [11] (fun iv wr => ∃ k : Nat, iv = .int .i64 k ∧ k ≤ n ∧ Below w.heap.size w wr ∧ Hid (fstN (chkAt l) k (n - k) = v)) (fun iv _ => n - (RowKit.intOf iv).toNat)
  case atStart => exact ⟨0, rfl, Nat.zero_le _, Below.refl _ _, HV⟩
  case round =>
    obtain ⟨k, rfl, hk, hb, HF⟩ := hrel
    have HB := Lib.hid hb
    by_cases hlt : k < n
    · have hlt' : (k : Int) < (n : Int) := by omega
      obtain ⟨t, ht⟩ : ∃ t, l[k]? = some t := ⟨_, List.getElem?_eq_getElem (by rw [HN.out]; exact hlt)⟩
      obtain ⟨b, off, rfl, hl, ⟨e0, e1, e2, e3, e4, e5, e6⟩, hN, hR, hFt⟩ := HA.out k t ht
      have f := fun i => hb.cell (p := ⟨b, i, none⟩) hl
      have g0 := (f _).trans e0
      have g1 := (f _).trans e1
      have g2 := (f _).trans e2
      have g3 := (f _).trans e3
      have g4 := (f _).trans e4
      have g5 := (f _).trans e5
      have g6 := (f _).trans e6
      have HT := Lib.hid ht
      obtain ⟨er, her⟩ : ∃ er, tarE t = er := ⟨_, rfl⟩
      have HCT := Lib.hid (fun W (h : Below w.heap.size w W) => tariff_is her W hN hFt (hR.below h))
      have HNX := Lib.hid (fstN_next (f := chkAt l) hlt)
      clear hb hN hR hFt e0 e1 e2 e3 e4 e5 e6 f hl
      go_upto_region 6 with fail
      obtain ⟨q, hq⟩ : ∃ q, wr.heap.size = q := ⟨_, rfl⟩
      have hk1 : Blk (wr.alloc (.cells #[.string t.nm, .int .i64 t.fr, .bool t.sp, .slice t.ZA t.zn t.zc, .slice t.BA t.bn t.bc, .slice t.RA t.rn t.rc, .slice t.DA t.dn t.dc] 32)) q 32 #[.string t.nm, .int .i64 t.fr, .bool t.sp, .slice t.ZA t.zn t.zc, .slice t.BA t.bn t.bc, .slice t.RA t.rn t.rc, .slice t.DA t.dn t.dc] := hq ▸ Blk.new _ _ _
      have hb1 : Below w.heap.size w (wr.alloc (.cells #[.string t.nm, .int .i64 t.fr, .bool t.sp, .slice t.ZA t.zn t.zc, .slice t.BA t.bn t.bc, .slice t.RA t.rn t.rc, .slice t.DA t.dn t.dc] 32)) := HB.out.alloc HB.out.size _
      rw [hq]
      generalize wr.alloc (.cells #[.string t.nm, .int .i64 t.fr, .bool t.sp, .slice t.ZA t.zn t.zc, .slice t.BA t.bn t.bc, .slice t.RA t.rn t.rc, .slice t.DA t.dn t.dc] 32) = L1 at hk1 hb1 ⊢
      have HB1 := Lib.hid hb1
      have HK1 := Lib.hid hk1
      obtain ⟨c0, c1, c2, c3, c4, c5, c6⟩ := seven hk1
      clear hk1 hb1 hq g0 g1 g2 g3 g4 g5 g6
      by_cases h0 : er = 0
      · subst h0
        by_cases hk0 : k = 0
        · subst hk0
          have HF2 : Hid (fstN (chkAt l) (0 + 1) (n - (0 + 1)) = v) := Lib.hid (by rw [← HF.out, HNX.out, if_pos (chkAt_first HT.out her)])
          clear her
          go_wp2_with (go_at_call 16; (with_reducible refine (HCT.out _ HB1.out).mono ?_); rintro e w1 ⟨rfl, h1⟩; have HB2 := Lib.hid (HB1.out.trans (h1.mono HB1.out.size)); have HK2 := Lib.hid (HK1.out.below h1 HK1.out.lt); clear h1 c0 c1 c2 c3 c4 c5 c6)
          refine wp_region_quiet_below (by kernel_rfl) (by kernel_rfl) ?_
          iterate 15 (go_big_quiet_step (fail))
          refine wpQuiet_nil ?_
          intro Wq hw'
          have HB3 : Hid (Below w.heap.size w Wq) := Lib.hid (by obtain ⟨qq, rfl⟩ := hw'; exact HB2.out.trans ((below_regrown _ _ _).mono HB2.out.size))
          clear hw'
          go_wp2_with fail
          go_roundw
          case rel => exact ⟨0 + 1, by go_num, by omega, HB3.out, HF2⟩
          case measure => simp [RowKit.intOf]; omega
        · obtain ⟨m, hm'⟩ : ∃ m, k - 1 = m := ⟨_, rfl⟩
          have hkm : (k : Int) - 1 = (m : Int) := by omega
          have hk0' : ((k : Int) == 0) = false := by simp; omega
          have hmn : (m : Int) < (n : Int) := by omega
          obtain ⟨t', ht'⟩ : ∃ t', l[m]? = some t' := ⟨_, List.getElem?_eq_getElem (by rw [HN.out]; omega)⟩
          obtain ⟨b', off', eA, hl', ⟨f0, f1, f2, f3, f4, f5, f6⟩, -, -, -⟩ := HA.out m t' ht'
          obtain ⟨rfl, rfl⟩ : b = b' ∧ off = off' := by cases eA; exact ⟨rfl, rfl⟩
          obtain ⟨o, ho⟩ : ∃ o, ordF t.nm t.fr l m = o := ⟨_, rfl⟩
          have HCA : Hid (chkAt l k = if 0 < o then 0 else 9) := Lib.hid (by rw [chkAt_next HT.out her hk0, hm', ho])
          rw [ordF_at ht'] at ho
          have HCO := Lib.hid (fun W => ordT_is ho W)
          have HCL : Hid (∀ i, w.cell? ⟨b, i, none⟩ = w.cell? ⟨b, i, none⟩) := Lib.hid fun _ => rfl
          have HL := Lib.hid hl'
          have HE := Lib.hid (show _ ∧ _ ∧ _ ∧ _ ∧ _ ∧ _ ∧ _ from ⟨f0, f1, f2, f3, f4, f5, f6⟩)
          clear her ho ht' hl' eA hm' f0 f1 f2 f3 f4 f5 f6 HCL
          go_wp2_with (go_at_call 16; (with_reducible refine (HCT.out _ HB1.out).mono ?_); rintro e w1 ⟨rfl, h1⟩; have HB2 := Lib.hid (HB1.out.trans (h1.mono HB1.out.size)); have HK2 := Lib.hid (HK1.out.below h1 HK1.out.lt); clear h1 c0 c1 c2 c3 c4 c5 c6)
          obtain ⟨c0, c1, -, -, -, -, -⟩ := seven HK2.out
          obtain ⟨f0, f1, f2, f3, f4, f5, f6⟩ := HE.out
          have f := fun i => HB2.out.cell (p := ⟨b, i, none⟩) HL.out
          have r0 := fun d os => cell_regrown c0 d os
          have r1 := fun d os => cell_regrown c1 d os
          have g0 := fun d os => cell_regrown ((f _).trans f0) d os
          have g1 := fun d os => cell_regrown ((f _).trans f1) d os
          have g2 := fun d os => cell_regrown ((f _).trans f2) d os
          have g3 := fun d os => cell_regrown ((f _).trans f3) d os
          have g4 := fun d os => cell_regrown ((f _).trans f4) d os
          have g5 := fun d os => cell_regrown ((f _).trans f5) d os
          have g6 := fun d os => cell_regrown ((f _).trans f6) d os
          clear f f0 f1 f2 f3 f4 f5 f6
          refine wp_region_quiet_below (by kernel_rfl) (by kernel_rfl) ?_
          iterate 15 (go_big_quiet_step ((with_reducible exact Calls.regrown_of (HCO.out _))))
          refine wpQuiet_nil ?_
          intro Wq hw'
          have HB3 : Hid (Below w.heap.size w Wq) := Lib.hid (by obtain ⟨qq, rfl⟩ := hw'; exact HB2.out.trans ((below_regrown _ _ _).mono HB2.out.size))
          clear hw' c0 c1 r0 r1 g0 g1 g2 g3 g4 g5 g6
          by_cases ho : 0 < o
          · have d1 := decide_eq_true ho
            have HF2 : Hid (fstN (chkAt l) (k + 1) (n - (k + 1)) = v) := Lib.hid (by rw [← HF.out, HNX.out, HCA.out, if_pos ho, if_pos rfl])
            go_wp2_with fail
            go_roundw
            case rel => exact ⟨k + 1, by go_num, by omega, HB3.out, HF2⟩
            case measure => simp [RowKit.intOf]; omega
          · have d1 := decide_eq_false ho
            have hv : v = 9 := by rw [← HF.out, HNX.out, HCA.out, if_neg ho, if_neg (by decide)]
            subst hv
            go_wp2_with fail
            go_ret
            exact ⟨rfl, HB3.out⟩
      · have hv : v = er := by rw [← HF.out, HNX.out, chkAt_bad HT.out (by rw [her]; exact h0), her, if_neg h0]
        subst hv
        have d0 : (v == 0) = false := by simpa using h0
        clear her
        go_wp2_with (go_at_call 16; (with_reducible refine (HCT.out _ HB1.out).mono ?_); rintro e w1 ⟨rfl, h1⟩; have HB2 := Lib.hid (HB1.out.trans (h1.mono HB1.out.size)); have HK2 := Lib.hid (HK1.out.below h1 HK1.out.lt); clear h1 c0 c1 c2 c3 c4 c5 c6)
        go_ret
        exact ⟨rfl, HB2.out⟩
    · obtain rfl : k = n := by omega
      have hz : v = 0 := by rw [← HF.out, fstN_end]
      subst hz
      have hd : decide ((k : Int) < (k : Int)) = false := decide_eq_false (by omega)
      go_wp2_with fail
      go_ret
      exact ⟨rfl, HB.out⟩
end Go.Proofs.YtpkmnefbofhjbaaGreat.Ck
namespace Go.Proofs.YtpkmnefbofhjbaaGreat.Ck
open Go Go.Lib Go.RowKit Go.Proofs.YtpkmnefbofhjbaaGreat Go.Maps

def pdV (a b : Int) : Bool := decide (0 ≤ a) && decide (a < b) && decide (b ≤ 12622780800)
def pdC (a b t : Int) : Bool := pdV a b && decide (a ≤ t) && decide (t < b)
set_option maxHeartbeats 4000000 in
theorem pdV_is {a b : Int} {v : Bool} (h : pdV a b = v) (w : World) : Calls Tryz.prog 69 #[.agg #[.int .i64 a, .int .i64 b]] w fun e w' => e = .returned (.bool v) ∧ Below w.heap.size w w' := by
  subst h
  have HB := Lib.hid (below_one w (.cells #[.int .i64 a, .int .i64 b] 44))
  have c0 := (Blk.new w 44 #[.int .i64 a, .int .i64 b]).cell 0
  have c1 := (Blk.new w 44 #[.int .i64 a, .int .i64 b]).cell 1
  unfold pdV
  cases h1 : decide (0 ≤ a)
  · go_enter Tryz.func69, Tryz.ntmps69
    go_wp2_with fail
    go_ret
    exact ⟨rfl, HB.out⟩
  cases h2 : decide (a < b)
  · go_enter Tryz.func69, Tryz.ntmps69
    go_wp2_with fail
    go_ret
    exact ⟨rfl, HB.out⟩
  cases h3 : decide (b ≤ 12622780800)
  all_goals
    go_enter Tryz.func69, Tryz.ntmps69
    go_wp2_with fail
    go_ret
    exact ⟨rfl, HB.out⟩
set_option maxHeartbeats 4000000 in
theorem pdC_is {a b t : Int} {v : Bool} (h : pdC a b t = v) (w : World) : Calls Tryz.prog 28 #[.agg #[.int .i64 a, .int .i64 b], .int .i64 t] w fun e w' => e = .returned (.bool v) ∧ Below w.heap.size w w' := by
  subst h
  have HB := Lib.hid (below_one w (.cells #[.int .i64 a, .int .i64 b] 44))
  have hk := Blk.new w 44 #[.int .i64 a, .int .i64 b]
  have HK := Lib.hid hk
  have c0 := hk.cell 0
  have c1 := hk.cell 1
  obtain ⟨v1, hv1⟩ : ∃ v, pdV a b = v := ⟨_, rfl⟩
  have HV := Lib.hid (fun W => pdV_is hv1 W)
  unfold pdC
  rw [hv1]
  clear hv1 hk
  cases v1
  · go_enter Tryz.func28, Tryz.ntmps28
    go_wp2_with (go_at_call 69; (with_reducible refine (HV.out _).mono ?_); rintro e w1 ⟨rfl, h1⟩; have HB1 := Lib.hid (HB.out.trans (h1.mono HB.out.size)); clear h1 c0 c1)
    go_ret
    exact ⟨rfl, HB1.out⟩
  cases h2 : decide (a ≤ t)
  · go_enter Tryz.func28, Tryz.ntmps28
    go_wp2_with (go_at_call 69; (with_reducible refine (HV.out _).mono ?_); rintro e w1 ⟨rfl, h1⟩; have HB1 := Lib.hid (HB.out.trans (h1.mono HB.out.size)); have HK1 := HK.out.below h1 HK.out.lt; clear h1 c0 c1; have c0 := HK1.cell 0; have c1 := HK1.cell 1; clear HK1)
    go_ret
    exact ⟨rfl, HB1.out⟩
  cases h3 : decide (t < b)
  all_goals
    go_enter Tryz.func28, Tryz.ntmps28
    go_wp2_with (go_at_call 69; (with_reducible refine (HV.out _).mono ?_); rintro e w1 ⟨rfl, h1⟩; have HB1 := Lib.hid (HB.out.trans (h1.mono HB.out.size)); have HK1 := HK.out.below h1 HK.out.lt; clear h1 c0 c1; have c0 := HK1.cell 0; have c1 := HK1.cell 1; clear HK1)
    go_ret
    exact ⟨rfl, HB1.out⟩
/-- Does a tariff have this name, and begin within this period? -/
def qC (nm : ByteArray) (a b : Int) (t : Tf) : Bool := (t.nm.toList == nm.toList) && pdC a b t.fr
set_option maxRecDepth 100000 in
set_option maxHeartbeats 4000000 in
theorem qC_is {nm : ByteArray} {a b : Int} {t : Tf} {v : Bool} (h : qC nm a b t = v) (p q : Nat) (w : World) (h1 : Blk w p 9 #[.string nm]) (h2 : Blk w q 44 #[.int .i64 a, .int .i64 b]) :
    Calls Tryz.prog 27 #[.agg #[.string t.nm, .int .i64 t.fr, .bool t.sp, .slice t.ZA t.zn t.zc, .slice t.BA t.bn t.bc, .slice t.RA t.rn t.rc, .slice t.DA t.dn t.dc], .pointer (some ⟨p, 0, none⟩), .pointer (some ⟨q, 0, none⟩)] w fun e w' => e = .returned (.bool v) ∧ Below w.heap.size w w' := by
  subst h
  have hb := below_one w (.cells #[.string t.nm, .int .i64 t.fr, .bool t.sp, .slice t.ZA t.zn t.zc, .slice t.BA t.bn t.bc, .slice t.RA t.rn t.rc, .slice t.DA t.dn t.dc] 32)
  obtain ⟨c0, c1, -, -, -, -, -⟩ := seven (Blk.new w 32 #[.string t.nm, .int .i64 t.fr, .bool t.sp, .slice t.ZA t.zn t.zc, .slice t.BA t.bn t.bc, .slice t.RA t.rn t.rc, .slice t.DA t.dn t.dc])
  have d0 := (h1.below hb h1.lt).cell 0
  have e0 := (h2.below hb h2.lt).cell 0
  have e1 := (h2.below hb h2.lt).cell 1
  have HB := Lib.hid hb
  obtain ⟨v1, hv1⟩ : ∃ v, pdC a b t.fr = v := ⟨_, rfl⟩
  have HV := Lib.hid (fun W => pdC_is hv1 W)
  unfold qC
  rw [hv1]
  clear hv1 hb h1 h2
  cases hn : (t.nm.toList == nm.toList)
  · go_enter Tryz.func27, Tryz.ntmps27
    go_wp2_with fail
    go_ret
    exact ⟨rfl, HB.out⟩
  · go_enter Tryz.func27, Tryz.ntmps27
    go_wp2_with (go_at_call 28; (with_reducible refine (HV.out _).mono ?_); rintro e w1 ⟨rfl, h1⟩; have HB1 := Lib.hid (HB.out.trans (h1.mono HB.out.size)); clear h1 c0 c1 d0 e0 e1)
    go_ret
    exact ⟨rfl, HB1.out⟩
/-- The cells of tariffs. -/
def tcl (l : List Tf) : List Value := l.flatMap fun t => [.string t.nm, .int .i64 t.fr, .bool t.sp, .slice t.ZA t.zn t.zc, .slice t.BA t.bn t.bc, .slice t.RA t.rn t.rc, .slice t.DA t.dn t.dc]
theorem tcl_len (l : List Tf) : (tcl l).length = l.length * 7 := by
  induction l with
  | nil => rfl
  | cons t l ih =>
    have : tcl (t :: l) = [.string t.nm, .int .i64 t.fr, .bool t.sp, .slice t.ZA t.zn t.zc, .slice t.BA t.bn t.bc, .slice t.RA t.rn t.rc, .slice t.DA t.dn t.dc] ++ tcl l := rfl
    rw [this, List.length_append, ih, List.length_cons]; simp; omega
theorem tcl_app (l m : List Tf) : tcl (l ++ m) = tcl l ++ tcl m := List.flatMap_append
theorem tcl_one (l : List Tf) : ∀ v ∈ tcl l, v.oneCell' = true := by
  intro v hv
  obtain ⟨t, -, h⟩ := List.mem_flatMap.1 hv
  simp only [List.mem_cons, List.not_mem_nil, or_false] at h
  rcases h with rfl | rfl | rfl | rfl | rfl | rfl | rfl <;> rfl
theorem tcl_at {l : List Tf} {k : Nat} {t : Tf} (h : l[k]? = some t) : ∀ i, i < 7 → (tcl l)[k * 7 + i]? = [Value.string t.nm, .int .i64 t.fr, .bool t.sp, .slice t.ZA t.zn t.zc, .slice t.BA t.bn t.bc, .slice t.RA t.rn t.rc, .slice t.DA t.dn t.dc][i]? := by
  intro i hi
  have hk := (List.getElem?_eq_some_iff.1 h).1
  have h1 : l = l.take k ++ t :: l.drop (k + 1) := by
    conv => lhs; rw [← List.take_append_drop k l]
    rw [List.drop_eq_getElem_cons hk]
    have : l[k] = t := by rw [List.getElem?_eq_getElem hk] at h; exact Option.some.inj h
    rw [this]
  have h2 : tcl l = tcl (l.take k) ++ ([Value.string t.nm, .int .i64 t.fr, .bool t.sp, .slice t.ZA t.zn t.zc, .slice t.BA t.bn t.bc, .slice t.RA t.rn t.rc, .slice t.DA t.dn t.dc] ++ tcl (l.drop (k + 1))) := by
    conv => lhs; rw [h1]
    rw [tcl_app]; rfl
  rw [h2, List.getElem?_append_right (by rw [tcl_len, List.length_take]; omega), tcl_len, List.length_take, Nat.min_eq_left (by omega), show k * 7 + i - k * 7 = i by omega, List.getElem?_append_left (by simpa using hi)]
def tf0 : Array Value := #[.string ⟨#[]⟩, .int .i64 0, .bool false, .slice none 0 0, .slice none 0 0, .slice none 0 0, .slice none 0 0]
theorem trInfo : (Tryz.prog.info? 32).map (fun i => (i.zero, i.size, i.bytes)) = some (some (.agg tf0), 7, 128) := by kernel_rfl
/-- A slice that reads as these tariffs, as far as their own cells go. -/
def TcR (w : World) (A : Option Addr) (l : List Tf) : Prop := ∀ (k : Nat) (t : Tf), l[k]? = some t → ∃ (b off : Nat), A = some ⟨b, off, none⟩ ∧ b < w.heap.size ∧ w.cell? ⟨b, off + k * 7, none⟩ = some (.string t.nm) ∧ w.cell? ⟨b, off + k * 7 + 1, none⟩ = some (.int .i64 t.fr) ∧ w.cell? ⟨b, off + k * 7 + 2, none⟩ = some (.bool t.sp) ∧
  w.cell? ⟨b, off + k * 7 + 3, none⟩ = some (.slice t.ZA t.zn t.zc) ∧ w.cell? ⟨b, off + k * 7 + 4, none⟩ = some (.slice t.BA t.bn t.bc) ∧ w.cell? ⟨b, off + k * 7 + 5, none⟩ = some (.slice t.RA t.rn t.rc) ∧ w.cell? ⟨b, off + k * 7 + 6, none⟩ = some (.slice t.DA t.dn t.dc)
theorem tr_own {w : World} {base n : Nat} {v : Value} {l : List Tf} (h : w.ownsRow base 32 7 v n (tcl l)) (hn : l.length = n) : ∃ A c, v = .slice A n c ∧ n ≤ c ∧ c ≤ maxLen ∧ TcR w A l := by
  rcases h.2 with ⟨rfl, rfl⟩ | ⟨g, cap, cur, rfl, hb, hg, hnc, hcm, hcs, htake⟩
  · obtain rfl : l = [] := by simpa using hn
    exact ⟨none, 0, rfl, Nat.le_refl _, Nat.zero_le _, fun k t hk => by simp at hk⟩
  · refine ⟨_, cap, rfl, hnc, hcm, fun k t hk => ?_⟩
    have hlt : g < w.heap.size := (Array.getElem?_eq_some_iff.1 hg).1
    have hkl := (List.getElem?_eq_some_iff.1 hk).1
    have f : ∀ i u, i < 7 → [Value.string t.nm, .int .i64 t.fr, .bool t.sp, .slice t.ZA t.zn t.zc, .slice t.BA t.bn t.bc, .slice t.RA t.rn t.rc, .slice t.DA t.dn t.dc][i]? = some u → w.cell? ⟨g, k * 7 + i, none⟩ = some u := fun i u hi hu => by
      rw [World.ownsRow.cellAt h (k * 7 + i) (by omega), tcl_at hk i hi, hu]
    exact ⟨g, 0, rfl, hlt, by simpa using f 0 _ (by decide) rfl, by simpa using f 1 _ (by decide) rfl, by simpa using f 2 _ (by decide) rfl, by simpa using f 3 _ (by decide) rfl, by simpa using f 4 _ (by decide) rfl, by simpa using f 5 _ (by decide) rfl, by simpa using f 6 _ (by decide) rfl⟩
theorem tblk_src {w : World} {g : Nat} {ty : TypeId} {t : Tf} (h : Blk w g ty #[.string t.nm, .int .i64 t.fr, .bool t.sp, .slice t.ZA t.zn t.zc, .slice t.BA t.bn t.bc, .slice t.RA t.rn t.rc, .slice t.DA t.dn t.dc]) : ∀ j v, (tcl [t])[j]? = some v → w.cell? ((⟨g, 0, none⟩ : Addr).add j) = some v := fun j v hj => by
  rw [add_none, Nat.zero_add, h.cell j, ← hj]
  show (#[Value.string t.nm, .int .i64 t.fr, .bool t.sp, .slice t.ZA t.zn t.zc, .slice t.BA t.bn t.bc, .slice t.RA t.rn t.rc, .slice t.DA t.dn t.dc] : Array Value)[j]? = _
  simp [tcl]
def kpT (q : Tf → Bool) (l : List Tf) (k : Nat) : List Tf := (l.take k).filter q
theorem kpT_all (q : Tf → Bool) (l : List Tf) : kpT q l l.length = l.filter q := by unfold kpT; rw [List.take_length]
theorem kpT_len (q : Tf → Bool) (l : List Tf) (k : Nat) : (kpT q l k).length ≤ k := Nat.le_trans (List.length_filter_le _ _) (by simp; omega)
theorem kpT_next {q : Tf → Bool} {l : List Tf} {k : Nat} {t : Tf} (h : l[k]? = some t) : kpT q l (k + 1) = kpT q l k ++ (if q t = true then [t] else []) := by
  unfold kpT
  rw [List.take_add_one, h, List.filter_append]
  show _ ++ [t].filter q = _
  rw [List.filter_cons]; rfl
/-- A row of the call's own that reads as these tariffs. -/
def TrOut (l : List Tf) (w : World) (e : Ending) (w' : World) : Prop :=
  ∃ v', e = .returned v' ∧ w'.ownsRow w.heap.size 32 7 v' l.length (tcl l) ∧ Below w.heap.size w w'
set_option maxRecDepth 100000 in
set_option maxHeartbeats 8000000 in
theorem filterC (A : Option Addr) (n c : Nat) (l : List Tf) (nm : ByteArray) (a b : Int) (p1 p2 : Nat) (w : World) (h1 : Blk w p1 9 #[.string nm]) (h2 : Blk w p2 44 #[.int .i64 a, .int .i64 b]) (hA : TLs w A l) (hn : l.length = n) (h6 : n ≤ 1000000) :
    Calls Tryz.prog 29 #[.slice A n c, .func (.func 27) #[] #[.pointer (some ⟨p1, 0, none⟩), .pointer (some ⟨p2, 0, none⟩)]] w (TrOut (l.filter (qC nm a b)) w) := by
  obtain ⟨i0, hi0, hz0, hz1, hz2⟩ := info_parts trInfo
  have HA := Lib.hid hA; have HN := Lib.hid hn
  obtain ⟨q, hq⟩ : ∃ q, q = qC nm a b := ⟨_, rfl⟩
  have HC := Lib.hid (fun (t : Tf) (x : Bool) (W : World) (hx : q t = x) (hb : Below w.heap.size w W) => qC_is (nm := nm) (a := a) (b := b) (t := t) (v := x) (by rw [← hq]; exact hx) p1 p2 W (h1.below hb h1.lt) (h2.below hb h2.lt))
  have HE := Lib.hid (kpT_all q l)
  have HO0 : Hid (w.ownsRow w.heap.size 32 7 (.slice none 0 0) (kpT q l 0).length (tcl (kpT q l 0))) := Lib.hid (World.ownsRow_nil _ _ _ _)
  rw [← hq]
  clear hA hn h1 h2 hq
  go_enter Tryz.func29, Tryz.ntmps29
  go_wp2_with fail
  go_loopw [5, 10] (fun v iv wr => ∃ (k : Nat) (u : Value), u = v ∧ iv = .int .i64 k ∧ k ≤ n ∧ Below w.heap.size w wr ∧ Hid (wr.ownsRow w.heap.size 32 7 u (kpT q l k).length (tcl (kpT q l k)))) (fun _ iv _ => n - (RowKit.intOf iv).toNat)
  case atStart => exact ⟨0, _, rfl, rfl, by omega, Below.refl _ _, HO0⟩
  case round =>
    obtain ⟨k, v, rfl, rfl, hk, hb, HO⟩ := hrel
    have hs := hb.size
    by_cases hlt : k < n
    · have hlt' : (k : Int) < (n : Int) := by omega
      obtain ⟨t, ht⟩ : ∃ t, l[k]? = some t := ⟨_, List.getElem?_eq_getElem (by rw [HN.out]; exact hlt)⟩
      obtain ⟨bk, off, rfl, hl, ⟨f0, f1, f2, f3, f4, f5, f6⟩, -, -, -⟩ := HA.out k t ht
      have f := fun i => hb.cell (p := ⟨bk, i, none⟩) hl
      have g0 := (f _).trans f0
      have g1 := (f _).trans f1
      have g2 := (f _).trans f2
      have g3 := (f _).trans f3
      have g4 := (f _).trans f4
      have g5 := (f _).trans f5
      have g6 := (f _).trans f6
      have HKP := Lib.hid (kpT_len q l k)
      have HNX := Lib.hid (kpT_next (q := q) ht)
      obtain ⟨x, hx⟩ : ∃ x, q t = x := ⟨_, rfl⟩
      rw [hx] at HNX
      have HC1 := Lib.hid (fun W (h : Below w.heap.size w W) => HC.out t x W hx h)
      have HB1 : Hid (Below w.heap.size w (wr.alloc (.cells #[.string t.nm, .int .i64 t.fr, .bool t.sp, .slice t.ZA t.zn t.zc, .slice t.BA t.bn t.bc, .slice t.RA t.rn t.rc, .slice t.DA t.dn t.dc] 32))) := Lib.hid (hb.alloc hs _)
      have HO1 : Hid ((wr.alloc (.cells #[.string t.nm, .int .i64 t.fr, .bool t.sp, .slice t.ZA t.zn t.zc, .slice t.BA t.bn t.bc, .slice t.RA t.rn t.rc, .slice t.DA t.dn t.dc] 32)).ownsRow w.heap.size 32 7 v (kpT q l k).length (tcl (kpT q l k))) := Lib.hid (HO.out.alloc _)
      have HP1 : Hid (Blk (wr.alloc (.cells #[.string t.nm, .int .i64 t.fr, .bool t.sp, .slice t.ZA t.zn t.zc, .slice t.BA t.bn t.bc, .slice t.RA t.rn t.rc, .slice t.DA t.dn t.dc] 32)) wr.heap.size 32 #[.string t.nm, .int .i64 t.fr, .bool t.sp, .slice t.ZA t.zn t.zc, .slice t.BA t.bn t.bc, .slice t.RA t.rn t.rc, .slice t.DA t.dn t.dc]) := Lib.hid (Blk.new _ _ _)
      obtain ⟨c0, c1, c2, c3, c4, c5, c6⟩ := seven HP1.out
      clear f f0 f1 f2 f3 f4 f5 f6 ht hl hx HO
      obtain ⟨g, hg⟩ : ∃ g, wr.heap.size = g := ⟨_, rfl⟩
      rw [hg] at HP1 c0 c1 c2 c3 c4 c5 c6
      cases x
      · go_wp2_with (go_at_call 27; (with_reducible refine (HC1.out _ HB1.out).mono ?_); rintro e w1 ⟨rfl, hb1⟩; have hb2 := HB1.out.trans (hb1.mono HB1.out.size); have HO3 := Lib.hid (Zn.own_keep HO1.out hb1); clear hb1)
        go_roundw
        case rel => exact ⟨k + 1, _, rfl, by go_num, by omega, hb2, Lib.hid (by rw [HNX.out]; simpa using HO3.out)⟩
        case measure => simp [RowKit.intOf]; omega
      · go_wp2_with (first
          | (go_at_call 27; (with_reducible refine (HC1.out _ HB1.out).mono ?_); rintro e w1 ⟨rfl, hb1⟩; have hb2 := HB1.out.trans (hb1.mono HB1.out.size); have HO3 := Lib.hid (Zn.own_keep HO1.out hb1); clear c0 c1 c2 c3 c4 c5 c6; obtain ⟨c0, c1, c2, c3, c4, c5, c6⟩ := seven (HP1.out.below hb1 HP1.out.lt); clear hb1)
          | (at_builtin; refine wpList_append_own_at _ rfl (.tmp 17) (.tmp 19) 22 rfl w.heap.size 32 i0 _ 7 128 Tryz.underlying22 hi0 hz0 hz1 hz2 rfl (by decide) _ _ (tcl (kpT q l k)) rfl (HO3.out.alloc _) ⟨w1.heap.size, 0, none⟩ 1 1 (tcl [t]) rfl (by rw [tcl_len]; rfl) (tblk_src (t := t) (Blk.new w1 32 _)) (tcl_one _) (by have := HKP.out; unfold maxLen; omega) (by have := HKP.out; omega) (by have := hb2.size; simp; omega) ?_; intro v4 w4 x1 x2 _ x3; have HO4 := Lib.hid x1; have hb4 := Zn.below_grown (hb2.alloc hb2.size _) x2 (fun k hk => (World.ownsRow.lt HO3.out k hk).1) (by have := hb2.size; simp; omega); clear x1 x2 x3))
        go_roundw
        case rel => exact ⟨k + 1, _, rfl, by go_num, by omega, hb4, Lib.hid (by rw [HNX.out, if_pos (by trivial), List.length_append, tcl_app]; exact HO4.out)⟩
        case measure => simp [RowKit.intOf]; omega
    · obtain rfl : k = n := by omega
      go_wp2_with fail
      go_ret
      refine ⟨_, rfl, ?_, hb⟩
      have h := HO.out
      rw [← HN.out, HE.out] at h
      exact h
end Go.Proofs.YtpkmnefbofhjbaaGreat.Ck
namespace Go.Proofs.YtpkmnefbofhjbaaGreat.Ck
open Go Go.Lib Go.RowKit Go.Proofs.YtpkmnefbofhjbaaGreat Go.Maps

/-- The beginnings of tariffs. -/
def frs (l : List Tf) : List Int := l.map (·.fr)
/-- A row of the call's own that reads as these integers. -/
def InOut (l : List Int) (w : World) (e : Ending) (w' : World) : Prop :=
  ∃ v', e = .returned v' ∧ w'.ownsRow w.heap.size 3 1 v' l.length (l.map (Value.int .i64)) ∧ Below w.heap.size w w'
theorem own_base {w : World} {base base' e size n : Nat} {v : Value} {xs : List Value} (h : w.ownsRow base e size v n xs) (hb : base' ≤ base) : w.ownsRow base' e size v n xs :=
  ⟨h.1, h.2.imp id fun ⟨g, cap, cur, h0, h1, h2⟩ => ⟨g, cap, cur, h0, Nat.le_trans hb h1, h2⟩⟩
theorem src1i {w : World} {t : TypeId} {x : Value} : ∀ j u, [x][j]? = some u → (w.alloc (.cells #[x] t)).cell? ((⟨w.heap.size, 0, none⟩ : Addr).add j) = some u := by
  intro j u h
  match j with
  | 0 =>
    rw [add_none]
    have : some x = some u := h
    rw [← this]
    exact (Blk.new w t #[x]).cell 0
  | j + 1 => exact absurd h (by simp)
set_option maxRecDepth 100000 in
set_option maxHeartbeats 8000000 in
theorem changes_is (A : Option Addr) (n c : Nat) (l : List Tf) (nm : ByteArray) (a b : Int) (w : World) (hA : TLs w A l) (hn : l.length = n) (h6 : n ≤ 1000000) :
    Calls Tryz.prog 15 #[.slice A n c, .string nm, .agg #[.int .i64 a, .int .i64 b]] w (InOut (frs (l.filter (qC nm a b))) w) := by
  obtain ⟨W1, hW1⟩ : ∃ W, (w.alloc (.cells #[.string nm] 9)).alloc (.cells #[.int .i64 a, .int .i64 b] 44) = W := ⟨_, rfl⟩
  obtain ⟨g, hg⟩ : ∃ g, w.heap.size = g := ⟨_, rfl⟩
  have hb : Below w.heap.size w W1 := hW1 ▸ (below_one w _).alloc (by simp) _
  have h1 : Blk W1 g 9 #[.string nm] := hW1 ▸ hg ▸ (Blk.new w _ _).alloc _
  have h2 : Blk W1 (g + 1) 44 #[.int .i64 a, .int .i64 b] := by
    have h := Blk.new (w.alloc (.cells #[.string nm] 9)) 44 #[.int .i64 a, .int .i64 b]
    rw [show (w.alloc (.cells #[.string nm] 9)).heap.size = g + 1 by simp [hg], hW1] at h
    exact h
  have HF := Lib.hid (filterC A n c l nm a b g (g + 1) W1 h1 h2 (hA.below hb) hn h6)
  unfold TrOut at HF
  obtain ⟨i0, hi0, hz0, hz1, hz2⟩ := info_parts intInfo
  obtain ⟨L, hL⟩ : ∃ L, l.filter (qC nm a b) = L := ⟨_, rfl⟩
  have hLn : L.length ≤ n := by rw [← hL, ← hn]; exact List.length_filter_le _ _
  rw [hL] at HF ⊢
  have HB := Lib.hid hb
  have HG := Lib.hid hg
  clear hA hn h1 h2 hb hL
  go_enter Tryz.func15, Tryz.ntmps15
  go_upto_region 3 with fail
  clear hW1 hg
  go_wp2_with (go_at_call 29; (with_reducible refine HF.out.mono ?_); rintro e w2 ⟨v2, rfl, ho2, hb2⟩; obtain ⟨B, cB, rfl, hc2, hm2, hT2⟩ := tr_own ho2 rfl; have HT2 := Lib.hid hT2; have HB2 := Lib.hid (HB.out.trans (hb2.mono HB.out.size)); clear ho2 hb2 hT2)
  obtain ⟨m, hm⟩ : ∃ m, L.length = m := ⟨_, rfl⟩
  rw [hm] at hLn hc2 ⊢
  have HM := Lib.hid hm
  have hcm := hm2
  unfold maxLen at hcm
  have HO0 : Hid (w2.ownsRow w2.heap.size 3 1 (.slice none 0 0) 0 ((frs (L.take 0)).map (Value.int .i64))) := Lib.hid (World.ownsRow_nil _ _ _ _)
  clear hm
  go_loopw [8, 16] (fun v iv wr => ∃ (k : Nat) (u : Value), u = v ∧ iv = .int .i64 k ∧ k ≤ m ∧ Below w2.heap.size w2 wr ∧ Hid (wr.ownsRow w2.heap.size 3 1 u k ((frs (L.take k)).map (Value.int .i64)))) (fun _ iv _ => m - (RowKit.intOf iv).toNat)
  case atStart => exact ⟨0, _, rfl, rfl, by omega, Below.refl _ _, HO0⟩
  case round =>
    obtain ⟨k, v, rfl, rfl, hk, hb, HO⟩ := hrel
    have hs := hb.size
    by_cases hlt : k < m
    · have hlt' : (k : Int) < (m : Int) := by omega
      obtain ⟨t, ht⟩ : ∃ t, L[k]? = some t := ⟨_, List.getElem?_eq_getElem (by rw [HM.out]; exact hlt)⟩
      obtain ⟨bk, off, rfl, hl, f0, f1, f2, f3, f4, f5, f6⟩ := HT2.out k t ht
      have f := fun i => hb.cell (p := ⟨bk, i, none⟩) hl
      have g0 := (f _).trans f0
      have g1 := (f _).trans f1
      have g2 := (f _).trans f2
      have g3 := (f _).trans f3
      have g4 := (f _).trans f4
      have g5 := (f _).trans f5
      have g6 := (f _).trans f6
      have HNX : Hid ((frs (L.take (k + 1))).map (Value.int .i64) = (frs (L.take k)).map (Value.int .i64) ++ [Value.int .i64 t.fr]) := Lib.hid (by
        rw [List.take_add_one, ht]; simp [frs])
      have HB1 : Hid (Below w2.heap.size w2 (wr.alloc (.cells #[.string t.nm, .int .i64 t.fr, .bool t.sp, .slice t.ZA t.zn t.zc, .slice t.BA t.bn t.bc, .slice t.RA t.rn t.rc, .slice t.DA t.dn t.dc] 32))) := Lib.hid (hb.alloc hs _)
      have HO1 : Hid ((wr.alloc (.cells #[.string t.nm, .int .i64 t.fr, .bool t.sp, .slice t.ZA t.zn t.zc, .slice t.BA t.bn t.bc, .slice t.RA t.rn t.rc, .slice t.DA t.dn t.dc] 32)).ownsRow w2.heap.size 3 1 v k ((frs (L.take k)).map (Value.int .i64))) := Lib.hid (HO.out.alloc _)
      have hk1 := Blk.new wr 32 #[.string t.nm, .int .i64 t.fr, .bool t.sp, .slice t.ZA t.zn t.zc, .slice t.BA t.bn t.bc, .slice t.RA t.rn t.rc, .slice t.DA t.dn t.dc]
      clear f f0 f1 f2 f3 f4 f5 f6 ht hl HO
      go_upto_region 6 with fail
      obtain ⟨q, hq⟩ : ∃ q, wr.heap.size = q := ⟨_, rfl⟩
      rw [hq] at hk1 ⊢
      generalize wr.alloc (.cells #[.string t.nm, .int .i64 t.fr, .bool t.sp, .slice t.ZA t.zn t.zc, .slice t.BA t.bn t.bc, .slice t.RA t.rn t.rc, .slice t.DA t.dn t.dc] 32) = L1 at hk1 HB1 HO1 ⊢
      have c1 := hk1.cell 1
      clear hk1 g0 g1 g2 g3 g4 g5 g6
      go_wp2_with (at_builtin; refine wpList_append_own_at _ rfl (.tmp 20) (.tmp 23) 41 rfl w2.heap.size 3 i0 _ 1 8 Tryz.underlying41 hi0 hz0 hz1 hz2 rfl (by decide) _ _ ((frs (L.take k)).map (Value.int .i64)) rfl (HO1.out.alloc _) ⟨L1.heap.size, 0, none⟩ 1 1 [.int .i64 t.fr] rfl rfl src1i (by simp [Value.oneCell']) (by unfold maxLen; omega) (by omega) (by have := HB1.out.size; simp; omega) ?_; intro v4 w4 x1 x2 _ x3; have HO4 := Lib.hid x1; have hb4 := Zn.below_grown (HB1.out.alloc HB1.out.size _) x2 (fun k hk => (World.ownsRow.lt HO1.out k hk).1) (by have := HB1.out.size; simp; omega); clear x1 x2 x3)
      go_roundw
      case rel => exact ⟨k + 1, _, rfl, by go_num, by omega, hb4, Lib.hid (by rw [HNX.out]; exact HO4.out)⟩
      case measure => simp [RowKit.intOf]; omega
    · obtain rfl : k = m := by omega
      go_wp2_with fail
      go_ret
      refine ⟨_, rfl, ?_, HB2.out.trans (hb.mono HB2.out.size)⟩
      have h := HO.out
      rw [← HM.out, List.take_length] at h
      rw [show (frs L).length = L.length by simp [frs]]
      exact own_base h (by have := HB2.out.size; omega)
def chR (nm : ByteArray) (a b : Int) (l : List Tf) (k : Nat) : List Int := frs ((l.take k).filter (qC nm a b))
theorem chR_len (nm : ByteArray) (a b : Int) (l : List Tf) (k : Nat) : (chR nm a b l k).length ≤ k := by
  unfold chR frs; rw [List.length_map]; exact Nat.le_trans (List.length_filter_le _ _) (by simp; omega)
theorem chR_next {nm : ByteArray} {a b : Int} {l : List Tf} {k : Nat} {t : Tf} (h : l[k]? = some t) : chR nm a b l (k + 1) = chR nm a b l k ++ (if qC nm a b t = true then [t.fr] else []) := by
  unfold chR frs
  rw [List.take_add_one, h, List.filter_append, List.map_append]
  show _ ++ ([t].filter (qC nm a b)).map _ = _
  rw [List.filter_cons]
  split <;> rfl
theorem qC_off {nm : ByteArray} {a b : Int} (h : pdV a b = false) (l : List Tf) : l.filter (qC nm a b) = [] := by
  rw [List.filter_eq_nil_iff]
  intro t _
  unfold qC pdC
  rw [h]; simp
theorem qC_on {nm : ByteArray} {a b : Int} (h : pdV a b = true) (t : Tf) : qC nm a b t = ((t.nm.toList == nm.toList) && decide (a ≤ t.fr) && decide (t.fr < b)) := by
  unfold qC pdC
  rw [h, Bool.true_and, Bool.and_assoc]
end Go.Proofs.YtpkmnefbofhjbaaGreat.Ck
namespace Go.Proofs.YtpkmnefbofhjbaaGreat.Ck
open Go Go.ChangeShapes Go.WideShapes Go.ChangeAt Go.RowKit Go.Deep Go.Proofs.YtpkmnefbofhjbaaGreat

set_option maxRecDepth 100000 in
theorem tar_in {H : Type} {enc : TypeId × Value → H} {w : World} {fuel : Nat} {cs : List Value} {x : DataW H × List MemPlace}
    (h : DataW.trod enc Tryz.prog w 0 (fun _ => true) true fuel 32 cs = some x) (hl : cs.length = 7) (hw : WL 32 x.1) : ∃ t : Tf, cs = t.cells.toList ∧ TfN t ∧ TfR w t ∧ TfB t ∧ TfZ t := by
  have he : Tryz.prog.underlying 32 = some (.struct (Tryz.prog.fieldsOf 32)) := by kernel_rfl
  obtain ⟨c0, c1, c2, c3, c4, c5, c6, rfl⟩ := list7 hl
  obtain ⟨ys, n', hn', hy, hlen, hyl, hfl⟩ := DataW.trod_struct he h
  have h0 := hfl 0 _ rfl
  rw [List.getElem?_eq_getElem (show 0 < ys.length by rw [hyl]; decide)] at h0
  have h1 := hfl 1 _ rfl
  rw [List.getElem?_eq_getElem (show 1 < ys.length by rw [hyl]; decide)] at h1
  have h2 := hfl 2 _ rfl
  rw [List.getElem?_eq_getElem (show 2 < ys.length by rw [hyl]; decide)] at h2
  have h3 := hfl 3 _ rfl
  have e3 : ys[3]? = some (ys[3]'(by rw [hyl]; decide)) := List.getElem?_eq_getElem _
  rw [e3] at h3
  have h4 := hfl 4 _ rfl
  have e4 : ys[4]? = some (ys[4]'(by rw [hyl]; decide)) := List.getElem?_eq_getElem _
  rw [e4] at h4
  have h5 := hfl 5 _ rfl
  have e5 : ys[5]? = some (ys[5]'(by rw [hyl]; decide)) := List.getElem?_eq_getElem _
  rw [e5] at h5
  have h6 := hfl 6 _ rfl
  rw [List.getElem?_eq_getElem (show 6 < ys.length by rw [hyl]; decide)] at h6
  have hD : x.1 = .agg (ys.map (·.1)) := congrArg Prod.fst hy
  rw [hD] at hw
  have hw3 : WL 27 (ys[3]'(by rw [hyl]; decide)).1 := WL.part he hw (j := 3) rfl (by rw [List.getElem?_map, e3]; rfl)
  have hw4 : WL 28 (ys[4]'(by rw [hyl]; decide)).1 := WL.part he hw (j := 4) rfl (by rw [List.getElem?_map, e4]; rfl)
  have hw5 : WL 29 (ys[5]'(by rw [hyl]; decide)).1 := WL.part he hw (j := 5) rfl (by rw [List.getElem?_map, e5]; rfl)
  obtain ⟨u0, rfl, s0⟩ := str_inV (v := c0) h0
  obtain ⟨u1, rfl⟩ := int_inV (v := c1) h1
  obtain ⟨u2, rfl⟩ := bool_inV (v := c2) h2
  have h3' : DataW.trod enc Tryz.prog w 0 (fun _ => true) true n' 27 [c3] = some _ := h3
  obtain ⟨ZA, zn, zc, rfl⟩ : ∃ A n c, c3 = .slice A n c := by
    rcases open_sl Tryz.underlying27 h3' with hq | ⟨a, l, c, _, _, _, _, hq, _⟩
    · exact ⟨none, 0, 0, by simpa using hq⟩
    · exact ⟨some a, l, c, by simpa using hq⟩
  obtain ⟨zl, z1, z2, z3, z4, z5⟩ := Zn.zns_of (A := ZA) (len := zn) (cap := zc) ⟨n', h3'⟩ hw3
  obtain ⟨BA, bn, bc, bl, rfl, b1, b2, b3, b4, b5⟩ := bds_in (v := c4) h4 hw4
  obtain ⟨RA, rn, rc, rl, rfl, r1, r2, r3, r4, r5⟩ := rts_in (v := c5) h5 hw5
  obtain ⟨DA, dn, dc, dl, rfl, d1, d2, d3, d4⟩ := dcs_in (v := c6) h6
  refine ⟨⟨u0, u1, u2, ZA, zn, zc, zl, BA, bn, bc, bl, RA, rn, rc, rl, DA, dn, dc, dl⟩, ?_, ⟨s0, z1, z2, z3, b3, b1, b2, r1, r2, r3, d1, d2, d3⟩, ⟨z4, b4, r4, d4⟩, ⟨fun z hz => ?_, fun b hb => ?_, fun r hr => (r5 r hr).1, fun r hr => (r5 r hr).2⟩, fun z hz => (z5 z hz).2⟩
  · rfl
  · have := (z5 z hz).1; omega
  · have := b5 b hb; omega
/-- A slice that reads as a list of tariffs that come in. -/
def TLw (w : World) (A : Option Addr) (l : List Tf) : Prop := ∀ (k : Nat) (t : Tf), l[k]? = some t → ∃ (b off : Nat), A = some ⟨b, off, none⟩ ∧ b < w.heap.size ∧ (w.cell? ⟨b, off + k * 7, none⟩ = some (.string t.nm) ∧ w.cell? ⟨b, off + k * 7 + 1, none⟩ = some (.int .i64 t.fr) ∧ w.cell? ⟨b, off + k * 7 + 2, none⟩ = some (.bool t.sp) ∧
  w.cell? ⟨b, off + k * 7 + 3, none⟩ = some (.slice t.ZA t.zn t.zc) ∧ w.cell? ⟨b, off + k * 7 + 4, none⟩ = some (.slice t.BA t.bn t.bc) ∧ w.cell? ⟨b, off + k * 7 + 5, none⟩ = some (.slice t.RA t.rn t.rc) ∧ w.cell? ⟨b, off + k * 7 + 6, none⟩ = some (.slice t.DA t.dn t.dc)) ∧ TfN t ∧ TfR w t ∧ TfB t ∧ TfZ t
def tf00 : Tf := ⟨⟨#[]⟩, 0, false, none, 0, 0, [], none, 0, 0, [], none, 0, 0, [], none, 0, 0, []⟩
set_option maxRecDepth 100000 in
theorem trs_of {H : Type} {enc : TypeId × Value → H} {w : World} {d : DataW H} {p : List MemPlace} {A : Option Addr} {n c : Nat}
    (h : DataW.Trod enc Tryz.prog w 0 (fun _ => true) true 22 (.slice A n c) d p) (hw : WL 22 d) : ∃ l : List Tf, l.length = n ∧ n ≤ c ∧ c ≤ maxLen ∧ TLw w A l := by
  obtain ⟨fuel, hf⟩ := h
  have hf' : DataW.trod enc Tryz.prog w 0 (fun _ => true) true fuel 22 [.slice A n c] = some (d, p) := hf
  rcases open_sl Tryz.underlying22 hf' with hcs | ⟨a, l, c', n', E, S, _, hcs, hl, hm, hx, _, hi⟩
  · have hv : Value.slice A n c = .slice none 0 0 := by simpa using hcs
    injection hv with e1 e2 e3
    subst e1; subst e2; subst e3
    exact ⟨[], rfl, Nat.le_refl _, by decide, fun k t hk => by simp at hk⟩
  · have hv : Value.slice A n c = .slice (some a) l c' := by simpa using hcs
    injection hv with e1 e2 e3
    subst e1; subst e2; subst e3
    have hx' : d = .slice E S := hx
    rw [hx'] at hw
    have hC : Tryz.prog.cellsOf 32 = 7 := by kernel_rfl
    have hat : ∀ i, i < n → ∃ t : Tf, (∀ j, j < 7 → w.cell? (a.add (i * 7 + j)) = t.cells.toList[j]?) ∧ TfN t ∧ TfR w t ∧ TfB t ∧ TfZ t := by
      intro i hil
      obtain ⟨cs', y, hc, ht', hmem⟩ := hi i hil
      rw [hC] at hc
      obtain ⟨_, hcl, hcat⟩ := World.cells?_some hc
      obtain ⟨t, rfl, k1, k2, k3, k4⟩ := tar_in ht' hcl (WL.elem Tryz.underlying22 hw hmem)
      refine ⟨t, fun j hj => ?_, k1, k2, k3, k4⟩
      have g := hcat j hj
      rw [Go.Deep.add_add] at g
      exact g
    obtain ⟨f, hf2⟩ : ∃ f : Nat → Tf, ∀ i, i < n → (∀ j, j < 7 → w.cell? (a.add (i * 7 + j)) = (f i).cells.toList[j]?) ∧ TfN (f i) ∧ TfR w (f i) ∧ TfB (f i) ∧ TfZ (f i) := by
      refine ⟨fun i => if h : i < n then Classical.choose (hat i h) else tf00, fun i hi' => ?_⟩
      simp only [dif_pos hi']
      exact Classical.choose_spec (hat i hi')
    refine ⟨(List.range n).map f, by simp, hl, hm, fun k t hk => ?_⟩
    have hkn : k < n := by
      have := (List.getElem?_eq_some_iff.1 hk).1
      simpa using this
    have e : t = f k := by
      rw [List.getElem?_map, List.getElem?_range hkn] at hk
      exact (Option.some.inj hk).symm
    subst e
    obtain ⟨g, k1, k2, k3, k4⟩ := hf2 k hkn
    obtain ⟨gz, _⟩ := hf2 0 (by omega)
    obtain ⟨b, off, rfl⟩ := spot_none (k := 0) ((gz 0 (by omega)).trans rfl)
    have g0 := g 0 (by omega); have g1 := g 1 (by omega); have g2 := g 2 (by omega); have g3 := g 3 (by omega); have g4 := g 4 (by omega); have g5 := g 5 (by omega); have g6 := g 6 (by omega)
    rw [add_none] at g0 g1 g2 g3 g4 g5 g6
    have hb := cell_block_lt (g0.trans rfl)
    exact ⟨b, off, rfl, hb, ⟨g0, g1, g2, g3, g4, g5, g6⟩, k1, k2, k3, k4⟩
theorem TLw.below {w w' : World} {A : Option Addr} {l : List Tf} (h : TLw w A l) (hb : Below w.heap.size w w') : TLw w' A l := fun k t hk => by
  obtain ⟨b, off, e, hl, ⟨g0, g1, g2, g3, g4, g5, g6⟩, hN, hR, hF⟩ := h k t hk
  have f := fun i => hb.cell (p := ⟨b, i, none⟩) hl
  exact ⟨b, off, e, Nat.lt_of_lt_of_le hl hb.size, ⟨(f _).trans g0, (f _).trans g1, (f _).trans g2, (f _).trans g3, (f _).trans g4, (f _).trans g5, (f _).trans g6⟩, hN, hR.below hb, hF⟩
end Go.Proofs.YtpkmnefbofhjbaaGreat.Ck
namespace Go.Proofs.YtpkmnefbofhjbaaGreat.Ck
open Go Go.Lib Go.RowKit Go.Proofs.YtpkmnefbofhjbaaGreat Go.Maps

theorem fitT {t : Tf} (hz : TfZ t) (hs : ∀ z ∈ t.zl, z.ps.length ≤ 300) : Zn.Fit t.zl := fun z h => ⟨Nat.le_trans (hs z h) (by decide), (hz z h).1, (hz z h).2⟩
theorem TLw.tls {w : World} {A : Option Addr} {l : List Tf} (h : TLw w A l) (hf : ∀ (k : Nat) (t : Tf), l[k]? = some t → Zn.Fit t.zl) : TLs w A l := fun k t hk => by
  obtain ⟨b, off, e, hl, g, hN, hR, -⟩ := h k t hk
  exact ⟨b, off, e, hl, g, hN, hR, hf k t hk⟩
set_option maxRecDepth 100000 in
set_option maxHeartbeats 8000000 in
theorem smallL_any (A : Option Addr) (n c : Nat) (l : List Tf) (w : World) (hA : TLw w A l) (hn : l.length = n) (hc : n ≤ c) (hm : c ≤ maxLen) :
    Calls Tryz.prog 5 #[.slice A n c] w fun e w' => ∃ v, e = .returned (.bool v) ∧ (v = true → n ≤ 8 ∧ ∀ (k : Nat) (t : Tf), l[k]? = some t → Zn.Fit t.zl) ∧ Below w.heap.size w w' := by
  have HSM : Hid (∀ (k : Nat) (t : Tf) (W : World), l[k]? = some t → Below w.heap.size w W → Calls Tryz.prog 12 #[.agg #[.string t.nm, .int .i64 t.fr, .bool t.sp, .slice t.ZA t.zn t.zc, .slice t.BA t.bn t.bc, .slice t.RA t.rn t.rc, .slice t.DA t.dn t.dc]] W (SmOut t W)) := Lib.hid (fun k t W hk hW => by
    obtain ⟨b, off, e, hl, g, hN, hR, hB, hZ⟩ := hA k t hk
    exact smallT_any t W hN (hR.below hW) hB)
  have HA := Lib.hid hA; have HN := Lib.hid hn
  have hcn := hc
  unfold maxLen at hm
  clear hA hn
  go_enter Tryz.func5, Tryz.ntmps5
  go_wp2_with fail
  go_loopw [3] (fun iv wr => ∃ k : Nat, iv = .int .i64 (k : Nat) ∧ k ≤ n ∧ Hid (∀ (j : Nat) (t : Tf), j < k → l[j]? = some t → Zn.Fit t.zl) ∧ Below w.heap.size w wr) (fun iv _ => n - (RowKit.intOf iv).toNat)
  case atStart => exact ⟨0, rfl, Nat.zero_le _, Lib.hid (fun j t h => absurd h (Nat.not_lt_zero j)), Below.refl _ _⟩
  case round =>
    obtain ⟨k, rfl, hk, HF, hb⟩ := hrel
    by_cases hlt : k < n
    · have hlt' : (k : Int) < (n : Int) := by omega
      obtain ⟨t, ht⟩ : ∃ t, l[k]? = some t := ⟨_, List.getElem?_eq_getElem (by rw [HN.out]; exact hlt)⟩
      obtain ⟨b, off, rfl, hl, ⟨f0, f1, f2, f3, f4, f5, f6⟩, -, -, -, hZ⟩ := HA.out k t ht
      have f := fun i => hb.cell (p := ⟨b, i, none⟩) hl
      have g0 := (f _).trans f0
      have g1 := (f _).trans f1
      have g2 := (f _).trans f2
      have g3 := (f _).trans f3
      have g4 := (f _).trans f4
      have g5 := (f _).trans f5
      have g6 := (f _).trans f6
      have HS1 := Lib.hid (HSM.out k t wr ht hb)
      have HT := Lib.hid ht; have HZ := Lib.hid hZ; have HG := Lib.hid (fun (W : World) (h : Below wr.heap.size wr W) => (h.cell (p := ⟨b, off + k * 7, none⟩) (Nat.lt_of_lt_of_le hl hb.size)).trans g0)
      have HB := Lib.hid hb
      clear f f0 f1 f2 f3 f4 f5 f6 ht hZ
      go_wp2_with fail
      refine HS1.out.mono ?_
      rintro e w1 ⟨v, rfl, hv, hb1⟩
      have HB1 := Lib.hid (HB.out.trans (hb1.mono HB.out.size))
      have x0 : w1.cell? ⟨b, off + k * 7, none⟩ = some (.string t.nm) := HG.out w1 hb1
      have HV := Lib.hid hv
      clear hv hb1 g0 g1 g2 g3 g4 g5 g6
      cases v
      · go_wp2_with fail
        go_ret
        exact ⟨false, rfl, (fun h => by cases h), HB1.out⟩
      · cases hq : decide ((300 : Int) < (t.nm.size : Int))
        · go_wp2_with fail
          go_roundw
          case rel => exact ⟨k + 1, by go_num, by omega, Lib.hid (fun j t' hj ht' => by
            by_cases e : j = k
            · subst e
              obtain rfl := Option.some.inj (HT.out.symm.trans ht')
              exact fitT HZ.out (HV.out trivial).1
            · exact HF.out j t' (by omega) ht'), HB1.out⟩
          case measure => simp [RowKit.intOf]; omega
        · go_wp2_with fail
          go_ret
          exact ⟨false, rfl, (fun h => by cases h), HB1.out⟩
    · obtain rfl : k = n := by omega
      have hd : decide ((k : Int) < (k : Int)) = false := decide_eq_false (by omega)
      cases hq : decide ((k : Int) ≤ 8)
      · go_wp2_with fail
        go_ret
        exact ⟨false, rfl, (fun h => by cases h), hb⟩
      · go_wp2_with fail
        go_ret
        refine ⟨true, rfl, fun _ => ⟨by have := of_decide_eq_true hq; omega, fun j t hj => HF.out j t (by have := (List.getElem?_eq_some_iff.1 hj).1; rw [HN.out] at this; exact this) hj⟩, hb⟩
end Go.Proofs.YtpkmnefbofhjbaaGreat.Ck
