/- Sets of texts in memory, as maps to truths. Walk: Covered. Walks of the reference: rate, Covered. Walk of the reference: Covered. -/
import Derived.Test.YtolgfkkjbefecaaZnS
import Derived.Test.YtolgfkkjbefecaaCkSm
import Derived.Maps.OwnSet
import Derived.Maps.OwnOps
import Derived.Lib.QuietBelow
namespace Go.Proofs.Ytolgfkkjbefecaa.Ck
open Go Go.Maps Go.RowKit Go.Proofs.Ytolgfkkjbefecaa Go.Lib

theorem zeroB (w : World) : (zeroValue 4).run Try.prog w = .ok (.bool false) w := by kernel_rfl
def isK (L : List (List UInt8)) (s : List UInt8) : Bool := L.any fun e => e == s
/-- The map in block b says which texts are in L. -/
def BMap (w : World) (b n : Nat) (L : List (List UInt8)) : Prop := ∃ D, w.ownsMap (H := Unit) Try.prog 9 (plainElem Try.prog 4) b n D ∧
  ∀ s : List UInt8, D.atKey (.string s) (.lit (.bool false)) = .lit (.bool (isK L s))
theorem BMap.made (w : World) : BMap (w.alloc (.map #[] 0)) w.heap.size 0 [] :=
  ⟨_, World.ownsMap_made _ _ _ _, fun _ => rfl⟩
theorem BMap.kept {w w' : World} {b n : Nat} {L : List (List UInt8)} {row : Option Nat} (h : BMap w b n L) (hg : w.grownBy w' row) (hne : some b ≠ row) : BMap w' b n L := by
  obtain ⟨D, h1, h2⟩ := h
  exact ⟨D, h1.kept hg hne, h2⟩
theorem BMap.lt {w : World} {b n : Nat} {L : List (List UInt8)} (h : BMap w b n L) : b < w.heap.size := by
  obtain ⟨D, h1, -⟩ := h; exact h1.lt
theorem BMap.below {w w' : World} {b n : Nat} {L : List (List UInt8)} (h : BMap w b n L) (hb : Below w.heap.size w w') : BMap w' b n L :=
  h.kept (row := none) ⟨hb.os, hb.tape, hb.output, hb.size, fun k hk _ => hb.block k hk⟩ (by simp)
theorem BMap.mono {w : World} {b n m : Nat} {L : List (List UInt8)} (h : BMap w b n L) (hn : n ≤ m) : BMap w b m L := by
  obtain ⟨D, h1, h2⟩ := h
  exact ⟨D, h1.mono hn, h2⟩
theorem plainElem_bool_inv {H : Type} {P : Program} {e : TypeId} (he : P.underlying e = some .bool) {v : Value} {z : DataW H × List MemPlace} (h : plainElem P e v = some z) : ∃ x, v = .bool x ∧ z = (.lit (.bool x), []) := by
  unfold plainElem at h
  rw [he] at h
  cases v <;> simp at h
  exact ⟨_, rfl, h.symm⟩
/-- m[s]. -/
theorem BMap.look {w : World} {b n : Nat} {L : List (List UInt8)} (h : BMap w b n L) (s : ByteArray) (hs : s.size ≤ maxLen) (v : Bool) (hv : isK L s.data.toList = v) :
    (Instr.lookup 71 (.map (some b)) (.string s) false).run Try.prog w = .ok (.bool v) w := by
  obtain ⟨D, h1, h2⟩ := h
  obtain ⟨x, ps, hr, hx⟩ := h1.lookup Zn.strLaw Try.underlying71 (zeroB w) (plainElem_bool Try.underlying4 false) (WideMaps.keyOf_string_mk Try.underlying9 hs)
  rw [show (DataW.lit (Lit.bool false) : DataW Unit) = .lit (.bool false) from rfl, h2, hv] at hx
  obtain ⟨y, rfl, hy⟩ := plainElem_bool_inv Try.underlying4 hx
  simp only [Prod.mk.injEq, DataW.lit.injEq, Lit.bool.injEq] at hy
  rw [hy.1]; exact hr
/-- What a store leaves. -/
theorem bmap_put {D : DataW Unit} {L : List (List UInt8)} (hD : IsMap D) (h2 : ∀ s : List UInt8, D.atKey (.string s) (.lit (.bool false)) = .lit (.bool (isK L s))) (p : List UInt8) :
    ∀ s : List UInt8, (D.put (.string p) (.lit (.bool true))).atKey (.string s) (.lit (.bool false)) = .lit (.bool (isK (L ++ [p]) s)) := by
  intro s
  have e : isK (L ++ [p]) s = (isK L s || (p == s)) := by unfold isK; rw [List.any_append]; simp
  rw [e]
  by_cases hs : s = p
  · subst hs
    rw [atKey_put_same hD (show WideAt.IsKeyLit (.string s) from trivial)]
    simp
  · have hne : (Lit.string s) ≠ .string p := fun e => hs (by injection e)
    rw [atKey_put_other hne, h2, show (p == s) = false by rw [beq_eq_false_iff_ne]; exact fun e => hs e.symm, Bool.or_false]
end Go.Proofs.Ytolgfkkjbefecaa.Ck
namespace Go.Proofs.Ytolgfkkjbefecaa.Ck
open Go Go.Lib Go.RowKit Go.Proofs.Ytolgfkkjbefecaa Go.Maps

/-- A band for which there is no rate. -/
def bare (L : List (List UInt8)) (b : Bd) : Bool := !isK L b.1.data.toList && !isK L []
set_option maxRecDepth 100000 in
theorem cv1_any (x : ByteArray) (ss : List Sl) (S : Value) (mp mb n : Nat) (L : List (List UInt8)) (W : World) (hm : Blk W mp 71 #[.map (some mb)]) (hB : BMap W mb n L) (hs : x.size ≤ maxLen) (v : Bool) (hv : bare L (x, ss) = v) :
    Calls Try.prog 43 #[.agg #[.string x, S], .pointer (some ⟨mp, 0, none⟩)] W fun e w' => e = .returned (.bool v) ∧ Below W.heap.size W w' := by
  have hb := below_one W (.cells #[.string x, S] 58)
  have c0 := (hm.alloc (.cells #[.string x, S] 58)).cell 0
  have c1 := (Blk.new W 58 #[.string x, S]).cell 0
  obtain ⟨v1, h1⟩ : ∃ v, isK L x.data.toList = v := ⟨_, rfl⟩
  obtain ⟨v2, h2⟩ : ∃ v, isK L [] = v := ⟨_, rfl⟩
  have r1 := (hB.below hb).look x hs v1 h1
  have r2 := (hB.below hb).look ⟨#[]⟩ (by decide) v2 h2
  have HV : Hid (v = (!v1 && !v2)) := Lib.hid (by rw [← hv, ← h1, ← h2]; rfl)
  have HB := Lib.hid hb
  clear hm hB hv h1 h2 hb
  cases v1 <;> cases v2
  all_goals
    go_enter Try.func43, Try.ntmps43
    go_wp2_with fail
    go_ret
    exact ⟨ret_b HV.out.symm, HB.out⟩
theorem any_takeB {l : List Bd} {m : Nat} {p : Bd → Bool} (h : ∀ j, j < m → p (l.getD j bd0) = false) (hm : m ≤ l.length) : (l.take m).any p = false := any_take h hm
set_option maxHeartbeats 4000000 in
theorem indexC_any (A : Option Addr) (n c : Nat) (l : List Bd) (mp mb q : Nat) (L : List (List UInt8)) (w : World) (hA : BdR w A l) (hn : l.length = n) (hc : n ≤ c) (hm : c ≤ maxLen) (hp : Blk w mp 71 #[.map (some mb)]) (hB : BMap w mb q L) :
    Calls Try.prog 67 #[.slice A n c, .func (.func 43) #[] #[.pointer (some ⟨mp, 0, none⟩)]] w fun e w' => (∃ v : Int, e = .returned (.int .i64 v) ∧ decide (0 ≤ v) = l.any (bare L)) ∧ Below w.heap.size w w' := by
  unfold maxLen at hm
  have HA := Lib.hid hA; have HN := Lib.hid hn; have HP := Lib.hid hp; have HB := Lib.hid hB
  clear hA hn hB hp
  go_enter Try.func67, Try.ntmps67
  go_wp2_with fail
  go_loopw [8] (fun iv wr => ∃ k : Nat, iv = .int .i64 k ∧ k ≤ n ∧ Below w.heap.size w wr ∧ Hid (∀ j, j < k → bare L (l.getD j bd0) = false)) (fun iv _ => n - (RowKit.intOf iv).toNat)
  case atStart => exact ⟨0, rfl, by omega, Below.refl _ _, Lib.hid fun j h => absurd h (Nat.not_lt_zero j)⟩
  case round =>
    obtain ⟨k, rfl, hk, hb, HO⟩ := hrel
    have hs := hb.size
    by_cases hlt : k < n
    · obtain ⟨bk, off, S, c2, rfl, hbl, g0, g1, _, _, _, hsx⟩ := HA.out k (by rw [HN.out]; omega)
      have e0 := (hb.cell (p := ⟨bk, off + k * 2, none⟩) hbl).trans g0
      have e1 := (hb.cell (p := ⟨bk, off + k * 2 + 1, none⟩) hbl).trans g1
      have hlt' : (k : Int) < (n : Int) := by omega
      obtain ⟨⟨x, ss⟩, hq⟩ : ∃ p, l.getD k bd0 = p := ⟨_, rfl⟩
      rw [hq] at e0 e1 hsx
      simp only at e0 e1 hsx
      clear g0 g1
      cases hv : bare L (x, ss)
      · have HC := Lib.hid (cv1_any x ss (.slice S ss.length c2) mp mb q L wr (HP.out.below hb HP.out.lt) (HB.out.below hb) hsx _ hv)
        have HO2 : Hid (∀ j, j < k + 1 → bare L (l.getD j bd0) = false) := Lib.hid fun j h => by
          rcases Nat.lt_or_ge j k with h | h
          · exact HO.out j h
          · obtain rfl : j = k := by omega
            rw [hq]; exact hv
        clear hq hv HO hsx
        go_wp2_with (go_at_call 43; (with_reducible refine HC.out.mono ?_); rintro e w1 ⟨rfl, hb1⟩; have hb2 := hb.trans (hb1.mono hs))
        go_roundw
        case rel => exact ⟨k + 1, by go_num, by omega, hb2, HO2⟩
        case measure => simp [RowKit.intOf]; omega
      · have HC := Lib.hid (cv1_any x ss (.slice S ss.length c2) mp mb q L wr (HP.out.below hb HP.out.lt) (HB.out.below hb) hsx _ hv)
        have HR := Lib.hid (anyOne (p := bare L) (d := bd0) (l := l) (k := k) (by rw [HN.out]; exact hlt) (by rw [hq]; exact hv))
        clear hq hv HO hsx
        go_wp2_with (go_at_call 43; (with_reducible refine HC.out.mono ?_); rintro e w1 ⟨rfl, hb1⟩; have hb2 := hb.trans (hb1.mono hs))
        go_ret
        exact ⟨⟨k, rfl, by rw [HR.out]; exact decide_eq_true (by omega)⟩, hb2⟩
    · obtain rfl : k = n := by omega
      have HR := Lib.hid (anyAll (p := bare L) (d := bd0) (by rw [HN.out]; exact HO.out))
      clear HO
      go_wp2_with fail
      go_ret
      exact ⟨⟨-1, rfl, by rw [HR.out]; rfl⟩, hb⟩
set_option maxHeartbeats 1000000 in
theorem containsC_is (A : Option Addr) (n c : Nat) (l : List Bd) (mp mb q : Nat) (L : List (List UInt8)) (w : World) (hA : BdR w A l) (hn : l.length = n) (hc : n ≤ c) (hm : c ≤ maxLen) (hp : Blk w mp 71 #[.map (some mb)]) (hB : BMap w mb q L) (v : Bool) (hv : l.any (bare L) = v) :
    Calls Try.prog 42 #[.slice A n c, .func (.func 43) #[] #[.pointer (some ⟨mp, 0, none⟩)]] w fun e w' => e = .returned (.bool v) ∧ Below w.heap.size w w' := by
  have H := Lib.hid (indexC_any A n c l mp mb q L w hA hn hc hm hp hB)
  rw [hv] at H
  clear hA hn hB hp hv
  go_enter Try.func42, Try.ntmps42
  go_wp2_with (go_at_call 67; (with_reducible refine H.out.mono ?_); rintro e w1 ⟨⟨v1, rfl, hv1⟩, hb⟩)
  go_ret
  exact ⟨rfl, hb⟩
/-- The bands named by the rates of a kind for any zone. -/
def anyZ (kind : Int) (r : Rt) : Bool := (r.kd == kind) && r.zn.toList.isEmpty
def keys (kind : Int) (l : List Rt) : List (List UInt8) := (l.filter (anyZ kind)).map fun r => r.bn.data.toList
def covE (t : Tf) (kind : Int) : Bool := inB kind 1 4 && !t.bl.any (bare (keys kind t.rl))
theorem keys_take {kind : Int} {l : List Rt} {k : Nat} (h : k < l.length) : keys kind (l.take (k + 1)) = if anyZ kind (l.getD k rt0) = true then keys kind (l.take k) ++ [(l.getD k rt0).bn.data.toList] else keys kind (l.take k) := by
  unfold keys
  rw [List.take_succ_eq_append_getElem h, List.filter_append, List.map_append]
  have e : l.getD k rt0 = l[k] := by rw [List.getD_eq_getElem?_getD, List.getElem?_eq_getElem h]; rfl
  rw [e]
  cases hz : anyZ kind l[k] <;> simp [hz]
set_option maxRecDepth 100000 in
set_option maxHeartbeats 16000000 in
theorem covered_any (t : Tf) (kind : Int) (w : World) (hN : TfN t) (hT : TfR w t) (hB : TfB t) :
    Calls Try.prog 19 #[.agg t.cells, .int .i64 kind] w fun e w' => e = .returned (.bool (covE t kind)) ∧ Below w.heap.size w w' := by
  obtain ⟨W1, hW1⟩ : ∃ W, w.alloc (.cells t.cells 39) = W := ⟨_, rfl⟩
  obtain ⟨g, hg⟩ : ∃ g, w.heap.size = g := ⟨_, rfl⟩
  have hbk : Blk W1 g 39 t.cells := hW1 ▸ hg ▸ Blk.new w _ _
  have hb1 : Below w.heap.size w W1 := hW1 ▸ below_one w _
  have HB1 := Lib.hid hb1; have HBK := Lib.hid hbk
  have HR0 := Lib.hid (hT.below hb1).r; have HBD := Lib.hid (hT.below hb1).b
  have HRL := Lib.hid hN.rl; have HBL := Lib.hid hN.bl; have HS := Lib.hid hB.s
  have hrm := hN.rm; have hrc := hN.rc; have hbm := hN.bm; have hbc := hN.bc
  obtain ⟨CE, hCE⟩ : ∃ x, covE t kind = x := ⟨_, rfl⟩
  rw [hCE]
  obtain ⟨vk, hvk⟩ : ∃ v, inB kind 1 4 = v := ⟨_, rfl⟩
  have HCE : Hid (CE = (vk && !t.bl.any (bare (keys kind t.rl)))) := Lib.hid (by rw [← hCE]; unfold covE; rw [hvk])
  have HK := Lib.hid (within_is hvk)
  obtain ⟨tnm, tfr, tsp, ZA, zln, zcp, zl, BA, bn, bc, bl, RA, rn, rc, rl, DA, dn, dc, dl⟩ := t
  simp only [Tf.cells] at HBK hW1 HR0 HBD HRL HBL HS HCE hrm hrc hbm hbc ⊢
  have hrm' := hrm
  unfold maxLen at hrm'
  obtain ⟨a0, a1, a2, a3, a4, a5, a6⟩ := seven HBK.out
  clear hN hT hB hbk hb1 hCE hvk
  cases vk
  · go_enter Try.func19, Try.ntmps19
    go_wp2_with (go_at_call 28; (with_reducible refine (HK.out _).mono ?_); rintro e w1 ⟨rfl, rfl⟩)
    go_ret
    exact ⟨ret_b (by rw [HCE.out]; rfl), HB1.out⟩
  · have hmm := @run_makeMap Try.prog
    go_enter Try.func19, Try.ntmps19
    go_upto_region 4 with (go_at_call 28; (with_reducible refine (HK.out _).mono ?_); rintro e w1 ⟨rfl, rfl⟩)
    have hbm0 := BMap.made W1
    have hbb := (below_one W1 (.map #[] 0)).alloc (by simp) (.cells #[.map (some W1.heap.size)] 71)
    have hbq := Blk.new (W1.alloc (.map #[] 0)) 71 #[.map (some W1.heap.size)]
    rw [show (W1.alloc (.map #[] 0)).heap.size = W1.heap.size + 1 by simp] at hbq
    have hbm1 := hbm0.kept (World.grownBy_alloc (W1.alloc (.map #[] 0)) (.cells #[.map (some W1.heap.size)] 71) none) (by simp)
    generalize (W1.alloc (.map #[] 0)).alloc (.cells #[.map (some W1.heap.size)] 71) = W2 at hbb hbq hbm1 ⊢
    obtain ⟨mb, hmb⟩ : ∃ mb, W1.heap.size = mb := ⟨_, rfl⟩
    rw [hmb] at hbq hbm1 ⊢
    have HBB := Lib.hid hbb; have HBQ := Lib.hid hbq; have HM0 := Lib.hid hbm1; have HMB := Lib.hid hmb
    clear hbm0 hbb hbq hbm1 hmm hW1 a0 a1 a2 a3 a4 a5 a6
    obtain ⟨a0, a1, a2, a3, a4, a5, a6⟩ := seven (HBK.out.below HBB.out HBK.out.lt)
    go_wp2_with fail
    clear a0 a1 a2 a3 a4 a5 a6
    go_loopw [15] (fun iv wr => ∃ k : Nat, iv = .int .i64 k ∧ k ≤ rn ∧ Below W1.heap.size W1 wr ∧ Hid (Blk wr (mb + 1) 71 #[.map (some mb)]) ∧ Hid (BMap wr mb k (keys kind (rl.take k)))) (fun iv _ => rn - (RowKit.intOf iv).toNat)
    case atStart => exact ⟨0, rfl, by omega, HBB.out, HBQ, Lib.hid (by simpa [keys] using HM0.out)⟩
    case round =>
      obtain ⟨k, rfl, hk, hb, HQ, HM⟩ := hrel
      have hs := hb.size
      by_cases hlt : k < rn
      · have hlt' : (k : Int) < (rn : Int) := by omega
        have hkl : k < rl.length := by rw [HRL.out]; exact hlt
        obtain ⟨bk, off, S, c, hAe, hbl, g0, g1, g2, g3, g4, u1, u2, u3⟩ := HR0.out k hkl
        subst hAe
        have e0 := (hb.cell (p := ⟨bk, off + k * 5, none⟩) hbl).trans g0
        have e1 := (hb.cell (p := ⟨bk, off + k * 5 + 1, none⟩) hbl).trans g1
        have e2 := (hb.cell (p := ⟨bk, off + k * 5 + 2, none⟩) hbl).trans g2
        have e3 := (hb.cell (p := ⟨bk, off + k * 5 + 3, none⟩) hbl).trans g3
        have e4 := (hb.cell (p := ⟨bk, off + k * 5 + 4, none⟩) hbl).trans g4
        have hsz := HS.out _ (mem_getD (d := rt0) hkl)
        have HKT := Lib.hid (keys_take (kind := kind) hkl)
        obtain ⟨⟨kd, zn, bn', su, st⟩, hr⟩ : ∃ r, rl.getD k rt0 = r := ⟨_, rfl⟩
        rw [hr] at e0 e1 e2 e3 e4 hsz HKT
        simp only at e0 e1 e2 e3 e4 hsz HKT
        obtain ⟨m, hm2⟩ : ∃ m, st.length = m := ⟨_, rfl⟩
        rw [hm2] at e4
        obtain ⟨W, hW⟩ : ∃ W, wr.alloc (.cells #[.int .i64 kd, .string zn, .string bn', .int .i64 su, .slice S m c] 46) = W := ⟨_, rfl⟩
        obtain ⟨q, hq⟩ : ∃ q, wr.heap.size = q := ⟨_, rfl⟩
        have hbw : Below W1.heap.size W1 W := hW ▸ hb.alloc hs _
        obtain ⟨c0, c1, c2, c3, c4⟩ := five (hW ▸ hq ▸ Blk.new wr _ _ : Blk W q 46 #[.int .i64 kd, .string zn, .string bn', .int .i64 su, .slice S m c])
        have hqw : Blk W (mb + 1) 71 #[.map (some mb)] := hW ▸ HQ.out.alloc _
        have hmw : BMap W mb k (keys kind (rl.take k)) := hW ▸ HM.out.kept (World.grownBy_alloc wr _ none) (by simp)
        have m0 := hqw.cell 0
        have HBW := Lib.hid hbw; have HQW := Lib.hid hqw; have HMW := Lib.hid hmw; have HSZ := Lib.hid hsz
        obtain ⟨v1, h1⟩ : ∃ v, (kd == kind) = v := ⟨_, rfl⟩
        obtain ⟨v2, h2⟩ : ∃ v, zn.toList.isEmpty = v := ⟨_, rfl⟩
        have HZ : Hid (anyZ kind ⟨kd, zn, bn', su, st⟩ = (v1 && v2)) := Lib.hid (by unfold anyZ; rw [h1, h2])
        clear g0 g1 g2 g3 g4 u1 u2 u3 hr hm2 hbw hqw hmw hbl HQ HM hsz hkl
        have hex : v1 = false ∨ (v1 = true ∧ v2 = false) ∨ (v1 = true ∧ v2 = true) := by cases v1 <;> cases v2 <;> simp
        rcases hex with rfl | ⟨rfl, rfl⟩ | ⟨rfl, rfl⟩
        · have HM2 : Hid (BMap W mb (k + 1) (keys kind (rl.take (k + 1)))) := Lib.hid (by rw [HKT.out, if_neg (by rw [HZ.out]; simp)]; exact HMW.out.mono (by omega))
          go_wp2_with fail
          go_roundw
          case rel => exact ⟨k + 1, by go_num, by omega, HBW.out, HQW, HM2⟩
          case measure => simp [RowKit.intOf]; omega
        · have HM2 : Hid (BMap W mb (k + 1) (keys kind (rl.take (k + 1)))) := Lib.hid (by rw [HKT.out, if_neg (by rw [HZ.out]; simp)]; exact HMW.out.mono (by omega))
          go_wp2_with fail
          go_roundw
          case rel => exact ⟨k + 1, by go_num, by omega, HBW.out, HQW, HM2⟩
          case measure => simp [RowKit.intOf]; omega
        · obtain ⟨D, hown, hD⟩ := HMW.out
          have HOWN := Lib.hid hown
          have HPUT := Lib.hid (bmap_put hown.isMap hD bn'.data.toList)
          clear hown hD
          go_wp2_with (at_mapUpdate; go_loud (refine wpList_mapUpdate_own _ rfl _ _ _ 71 rfl 9 4 Zn.strLaw Try.underlying71 _ mb k _ rfl HOWN.out (by unfold maxLen; omega) _ _ _ rfl rfl (WideMaps.keyOf_string_mk Try.underlying9 HSZ.out) _ [] (plainElem_bool Try.underlying4 true) ?_; intro w4 q1 q2; have HM2 : Hid (BMap w4 mb (k + 1) (keys kind (rl.take (k + 1)))) := Lib.hid (by rw [HKT.out, if_pos (by rw [HZ.out]; decide)]; exact ⟨_, q1, HPUT.out⟩); have HB4 := Lib.hid (Zn.below_grown HBW.out q2 (fun j hj => by have e2 : mb = j := Option.some.inj hj; have := HMB.out; omega) HBW.out.size); have HQ4 := Lib.hid (HQW.out.grown q2 (by intro e; have e2 : mb + 1 = mb := Option.some.inj e; omega)); clear q1 q2))
          go_roundw
          case rel => exact ⟨k + 1, by go_num, by omega, HB4.out, HQ4, HM2⟩
          case measure => simp [RowKit.intOf]; omega
      · obtain rfl : k = rn := by omega
        have hd : decide ((k : Int) < (k : Int)) = false := decide_eq_false (by omega)
        have htk : rl.take k = rl := by rw [← HRL.out]; exact List.take_length
        have HM' := HM.out
        rw [htk] at HM'
        obtain ⟨vv, hvv⟩ : ∃ v, bl.any (bare (keys kind rl)) = v := ⟨_, rfl⟩
        have HC := Lib.hid (containsC_is BA bn bc bl (mb + 1) mb k (keys kind rl) wr (HBD.out.below hb) HBL.out hbc hbm HQ.out HM' vv hvv)
        have HCF : Hid (CE = !vv) := Lib.hid (by rw [HCE.out, hvv]; rfl)
        obtain ⟨a0, a1, a2, a3, a4, a5, a6⟩ := seven (HBK.out.below hb HBK.out.lt)
        clear HM' hvv htk
        cases vv
        all_goals
          go_wp2_with (go_at_call 42; (with_reducible refine HC.out.mono ?_); rintro e w5 ⟨rfl, hb5⟩; have HB5 := Lib.hid (hb.trans (hb5.mono hs)); clear hb5)
          go_ret
          exact ⟨ret_b HCF.out.symm, HB1.out.trans (HB5.out.mono HB1.out.size)⟩
end Go.Proofs.Ytolgfkkjbefecaa.Ck
namespace Go.Proofs.Ytolgfkkjbefecaa.Ck
open Go Go.Lib Go.RowKit Go.Proofs.Ytolgfkkjbefecaa Go.Maps

/-- Is this a rate for a kind, a zone and a band? -/
def rtC (kind : Int) (z b : ByteArray) (r : Rt) : Bool := (r.kd == kind) && (r.zn.toList.isEmpty || (r.zn.toList == z.toList)) && (r.bn.toList.isEmpty || (r.bn.toList == b.toList))
theorem five_ways (v1 v2 v3 v4 v5 : Bool) : v1 = false ∨ (v1 = true ∧ v2 = false ∧ v3 = false) ∨ (v1 = true ∧ (v2 = true ∨ (v2 = false ∧ v3 = true)) ∧ v4 = false ∧ v5 = false) ∨ (v1 = true ∧ (v2 = true ∨ (v2 = false ∧ v3 = true)) ∧ (v4 = true ∨ (v4 = false ∧ v5 = true))) := by
  cases v1 <;> cases v2 <;> cases v3 <;> cases v4 <;> cases v5 <;> simp
set_option maxRecDepth 100000 in
set_option maxHeartbeats 16000000 in
theorem refRate_any (t : Tf) (kind : Int) (z b : ByteArray) (R : Bool) (hR : t.rl.any (rtC kind z b) = R) (w : World) (hN : TfN t) (hT : TfR w t) :
    Calls Try.prog 44 #[.agg t.cells, .int .i64 kind, .string z, .string b] w fun e w' => e = .returned (.bool R) ∧ Below w.heap.size w w' := by
  obtain ⟨W1, hW1⟩ : ∃ W, w.alloc (.cells t.cells 39) = W := ⟨_, rfl⟩
  obtain ⟨g, hg⟩ : ∃ g, w.heap.size = g := ⟨_, rfl⟩
  have hbk : Blk W1 g 39 t.cells := hW1 ▸ hg ▸ Blk.new w _ _
  have hb1 : Below w.heap.size w W1 := hW1 ▸ below_one w _
  have HB1 := Lib.hid hb1; have HBK := Lib.hid hbk
  have HR0 := Lib.hid (hT.below hb1).r
  have HRL := Lib.hid hN.rl
  have hrm := hN.rm; have hrc := hN.rc
  unfold maxLen at hrm
  have HRR := Lib.hid hR
  obtain ⟨tnm, tfr, tsp, ZA, zln, zcp, zl, BA, bn, bc, bl, RA, rn, rc, rl, DA, dn, dc, dl⟩ := t
  simp only [Tf.cells] at HBK hW1 HR0 HRL HRR hrm hrc ⊢
  obtain ⟨a0, a1, a2, a3, a4, a5, a6⟩ := seven HBK.out
  clear hN hT hbk hb1 hR
  go_enter Try.func44, Try.ntmps44
  go_wp2_with fail
  clear a0 a1 a2 a3 a4 a5 a6
  go_loopw [9] (fun iv wr => ∃ k : Nat, iv = .int .i64 k ∧ k ≤ rn ∧ Below W1.heap.size W1 wr ∧ Hid (∀ j, j < k → rtC kind z b (rl.getD j rt0) = false)) (fun iv _ => rn - (RowKit.intOf iv).toNat)
  case atStart => exact ⟨0, rfl, by omega, Below.refl _ _, Lib.hid fun j h => absurd h (Nat.not_lt_zero j)⟩
  case round =>
    obtain ⟨k, rfl, hk, hb, HO⟩ := hrel
    have hs := hb.size
    obtain ⟨a0, a1, a2, a3, a4, a5, a6⟩ := seven (HBK.out.below hb HBK.out.lt)
    by_cases hlt : k < rn
    · have hlt' : (k : Int) < (rn : Int) := by omega
      have hkl : k < rl.length := by rw [HRL.out]; exact hlt
      obtain ⟨bk, off, S, c, hAe, hbl, g0, g1, g2, g3, g4, u1, u2, u3⟩ := HR0.out k hkl
      rw [hAe] at a5
      have HAE := Lib.hid hAe
      subst hAe
      have e0 := (hb.cell (p := ⟨bk, off + k * 5, none⟩) hbl).trans g0
      have e1 := (hb.cell (p := ⟨bk, off + k * 5 + 1, none⟩) hbl).trans g1
      have e2 := (hb.cell (p := ⟨bk, off + k * 5 + 2, none⟩) hbl).trans g2
      have e3 := (hb.cell (p := ⟨bk, off + k * 5 + 3, none⟩) hbl).trans g3
      have e4 := (hb.cell (p := ⟨bk, off + k * 5 + 4, none⟩) hbl).trans g4
      obtain ⟨⟨kd, zn, bn', su, st⟩, hr⟩ : ∃ r, rl.getD k rt0 = r := ⟨_, rfl⟩
      rw [hr] at e0 e1 e2 e3 e4
      simp only at e0 e1 e2 e3 e4
      obtain ⟨m, hm2⟩ : ∃ m, st.length = m := ⟨_, rfl⟩
      rw [hm2] at e4
      obtain ⟨W, hW⟩ : ∃ W, wr.alloc (.cells #[.int .i64 kd, .string zn, .string bn', .int .i64 su, .slice S m c] 46) = W := ⟨_, rfl⟩
      obtain ⟨q, hq⟩ : ∃ q, wr.heap.size = q := ⟨_, rfl⟩
      have hbw : Below W1.heap.size W1 W := hW ▸ hb.alloc hs _
      obtain ⟨c0, c1, c2, c3, c4⟩ := five (hW ▸ hq ▸ Blk.new wr _ _ : Blk W q 46 #[.int .i64 kd, .string zn, .string bn', .int .i64 su, .slice S m c])
      have HBW := Lib.hid hbw
      obtain ⟨v1, h1⟩ : ∃ v, (kd == kind) = v := ⟨_, rfl⟩
      obtain ⟨v2, h2⟩ : ∃ v, zn.toList.isEmpty = v := ⟨_, rfl⟩
      obtain ⟨v3, h3⟩ : ∃ v, (zn.toList == z.toList) = v := ⟨_, rfl⟩
      obtain ⟨v4, h4⟩ : ∃ v, bn'.toList.isEmpty = v := ⟨_, rfl⟩
      obtain ⟨v5, h5⟩ : ∃ v, (bn'.toList == b.toList) = v := ⟨_, rfl⟩
      have HC : Hid (rtC kind z b (rl.getD k rt0) = (v1 && (v2 || v3) && (v4 || v5))) := Lib.hid (by rw [hr]; unfold rtC; rw [h1, h2, h3, h4, h5])
      have HKL := Lib.hid hkl
      clear g0 g1 g2 g3 g4 u1 u2 u3 hr hm2 hbw hbl hkl
      rcases five_ways v1 v2 v3 v4 v5 with rfl | ⟨rfl, rfl, rfl⟩ | ⟨rfl, rfl | ⟨rfl, rfl⟩, rfl, rfl⟩ | ⟨rfl, rfl | ⟨rfl, rfl⟩, rfl | ⟨rfl, rfl⟩⟩
      · have HO2 : Hid (∀ j, j < k + 1 → rtC kind z b (rl.getD j rt0) = false) := Lib.hid fun j h => by
          rcases Nat.lt_or_ge j k with h | h
          · exact HO.out j h
          · obtain rfl : j = k := by omega
            rw [HC.out]; simp
        go_wp2_with fail
        go_roundw
        case rel => exact ⟨k + 1, by go_num, by omega, HBW.out, HO2⟩
        case measure => simp [RowKit.intOf]; omega
      · have HO2 : Hid (∀ j, j < k + 1 → rtC kind z b (rl.getD j rt0) = false) := Lib.hid fun j h => by
          rcases Nat.lt_or_ge j k with h | h
          · exact HO.out j h
          · obtain rfl : j = k := by omega
            rw [HC.out]; simp
        go_wp2_with fail
        go_roundw
        case rel => exact ⟨k + 1, by go_num, by omega, HBW.out, HO2⟩
        case measure => simp [RowKit.intOf]; omega
      · have HO2 : Hid (∀ j, j < k + 1 → rtC kind z b (rl.getD j rt0) = false) := Lib.hid fun j h => by
          rcases Nat.lt_or_ge j k with h | h
          · exact HO.out j h
          · obtain rfl : j = k := by omega
            rw [HC.out]; simp
        go_wp2_with fail
        go_roundw
        case rel => exact ⟨k + 1, by go_num, by omega, HBW.out, HO2⟩
        case measure => simp [RowKit.intOf]; omega
      · have HO2 : Hid (∀ j, j < k + 1 → rtC kind z b (rl.getD j rt0) = false) := Lib.hid fun j h => by
          rcases Nat.lt_or_ge j k with h | h
          · exact HO.out j h
          · obtain rfl : j = k := by omega
            rw [HC.out]; simp
        go_wp2_with fail
        go_roundw
        case rel => exact ⟨k + 1, by go_num, by omega, HBW.out, HO2⟩
        case measure => simp [RowKit.intOf]; omega
      · have HF : Hid (R = true) := Lib.hid (by rw [← HRR.out]; exact anyOne (d := rt0) HKL.out (by rw [HC.out]; simp))
        go_wp2_with fail
        go_ret
        exact ⟨ret_b HF.out.symm, hg ▸ HB1.out.trans (HBW.out.mono HB1.out.size)⟩
      · have HF : Hid (R = true) := Lib.hid (by rw [← HRR.out]; exact anyOne (d := rt0) HKL.out (by rw [HC.out]; simp))
        go_wp2_with fail
        go_ret
        exact ⟨ret_b HF.out.symm, hg ▸ HB1.out.trans (HBW.out.mono HB1.out.size)⟩
      · have HF : Hid (R = true) := Lib.hid (by rw [← HRR.out]; exact anyOne (d := rt0) HKL.out (by rw [HC.out]; simp))
        go_wp2_with fail
        go_ret
        exact ⟨ret_b HF.out.symm, hg ▸ HB1.out.trans (HBW.out.mono HB1.out.size)⟩
      · have HF : Hid (R = true) := Lib.hid (by rw [← HRR.out]; exact anyOne (d := rt0) HKL.out (by rw [HC.out]; simp))
        go_wp2_with fail
        go_ret
        exact ⟨ret_b HF.out.symm, hg ▸ HB1.out.trans (HBW.out.mono HB1.out.size)⟩
    · obtain rfl : k = rn := by omega
      have hd : decide ((k : Int) < (k : Int)) = false := decide_eq_false (by omega)
      have HF : Hid (R = false) := Lib.hid (by rw [← HRR.out]; exact anyAll (d := rt0) (by rw [HRL.out]; exact HO.out))
      go_wp2_with fail
      go_ret
      exact ⟨ret_b HF.out.symm, HB1.out.trans (hb.mono HB1.out.size)⟩
theorem isK_keys (kind : Int) (l : List Rt) (s : List UInt8) : isK (keys kind l) s = l.any fun r => anyZ kind r && (r.bn.data.toList == s) := by
  unfold isK keys
  rw [List.any_map, List.any_filter]
  rfl
theorem emp_iff (x : ByteArray) : x.toList.isEmpty = (x.data.toList == []) := by
  rw [ByteArray.toList_eq]
  cases x.data.toList <;> rfl
/-- A rate for any zone serves every zone. -/
theorem rate_all {kind : Int} {rl : List Rt} {b : Bd} (h : bare (keys kind rl) b = false) (z : ByteArray) : rl.any (rtC kind z b.1) = true := by
  unfold bare at h
  rw [Bool.and_eq_false_iff] at h
  rw [List.any_eq_true]
  rcases h with h | h
  · rw [Bool.not_eq_false', isK_keys, List.any_eq_true] at h
    obtain ⟨r, hr, h⟩ := h
    refine ⟨r, hr, ?_⟩
    unfold anyZ at h
    unfold rtC
    simp only [Bool.and_eq_true] at h ⊢
    refine ⟨⟨h.1.1, by rw [h.1.2]; rfl⟩, ?_⟩
    rw [Zn.sEq r.bn b.1, h.2, Bool.or_true]
  · rw [Bool.not_eq_false', isK_keys, List.any_eq_true] at h
    obtain ⟨r, hr, h⟩ := h
    refine ⟨r, hr, ?_⟩
    unfold anyZ at h
    unfold rtC
    simp only [Bool.and_eq_true] at h ⊢
    refine ⟨⟨h.1.1, by rw [h.1.2]; rfl⟩, ?_⟩
    rw [emp_iff r.bn, h.2, Bool.true_or]
/-- A rate for no zone is one for any zone. -/
theorem rate_none {kind : Int} {rl : List Rt} {b : Bd} (h : rl.any (rtC kind ⟨#[]⟩ b.1) = true) : bare (keys kind rl) b = false := by
  rw [List.any_eq_true] at h
  obtain ⟨r, hr, h⟩ := h
  unfold rtC at h
  simp only [Bool.and_eq_true] at h
  obtain ⟨⟨h1, h2⟩, h3⟩ := h
  have hz : anyZ kind r = true := by
    unfold anyZ
    rw [h1, Bool.true_and]
    rw [Bool.or_eq_true] at h2
    rcases h2 with h2 | h2
    · exact h2
    · rw [emp_iff, ← Zn.sEq r.zn ⟨#[]⟩]; exact h2
  unfold bare
  rw [Bool.and_eq_false_iff, Bool.not_eq_false', Bool.not_eq_false', isK_keys, isK_keys, List.any_eq_true, List.any_eq_true]
  rw [Bool.or_eq_true] at h3
  rcases h3 with h3 | h3
  · right; exact ⟨r, hr, by rw [hz, Bool.true_and, ← emp_iff]; exact h3⟩
  · left; exact ⟨r, hr, by rw [hz, Bool.true_and, ← Zn.sEq r.bn b.1]; exact h3⟩
end Go.Proofs.Ytolgfkkjbefecaa.Ck
namespace Go.Proofs.Ytolgfkkjbefecaa.Ck
open Go Go.Lib Go.RowKit Go.Proofs.Ytolgfkkjbefecaa Go.Maps

theorem cov_no {t : Tf} {kind : Int} {k : Nat} {z : ByteArray} (hk : k < t.bl.length) (h : t.rl.any (rtC kind z (t.bl.getD k bd0).1) = false) : covE t kind = false := by
  unfold covE
  rw [Bool.and_eq_false_iff]
  right
  rw [Bool.not_eq_false']
  refine anyOne (d := bd0) hk ?_
  cases hb : bare (keys kind t.rl) (t.bl.getD k bd0)
  · rw [rate_all hb z] at h; cases h
  · rfl
theorem cov_yes {t : Tf} {kind : Int} (hv : inB kind 1 4 = true) (h : ∀ k, k < t.bl.length → t.rl.any (rtC kind ⟨#[]⟩ (t.bl.getD k bd0).1) = true) : covE t kind = true := by
  unfold covE
  rw [hv, Bool.true_and, anyAll (p := bare (keys kind t.rl)) (d := bd0) (fun k hk => rate_none (h k hk))]
  rfl
set_option maxRecDepth 100000 in
set_option maxHeartbeats 16000000 in
theorem refCovered_any (t : Tf) (kind : Int) (w : World) (hN : TfN t) (hT : TfR w t) (hz70 : t.zn ≤ 70) :
    Calls Try.prog 20 #[.agg t.cells, .int .i64 kind] w fun e w' => e = .returned (.bool (covE t kind)) ∧ Below w.heap.size w w' := by
  obtain ⟨W1, hW1⟩ : ∃ W, w.alloc (.cells t.cells 39) = W := ⟨_, rfl⟩
  obtain ⟨g, hg⟩ : ∃ g, w.heap.size = g := ⟨_, rfl⟩
  have hbk : Blk W1 g 39 t.cells := hW1 ▸ hg ▸ Blk.new w _ _
  have hb1 : Below w.heap.size w W1 := hW1 ▸ below_one w _
  have HB1 := Lib.hid hb1; have HBK := Lib.hid hbk
  have HZ0 := Lib.hid (hT.below hb1).z; have HB0 := Lib.hid (hT.below hb1).b
  have HZL := Lib.hid hN.zl; have HBL := Lib.hid hN.bl
  have hbm := hN.bm; have hbc := hN.bc; have hzm := hN.zm; have hzc := hN.zc
  unfold maxLen at hbm hzm
  obtain ⟨CE, hCE⟩ : ∃ x, covE t kind = x := ⟨_, rfl⟩
  have HNO := Lib.hid (fun (k : Nat) (z : ByteArray) (hk : k < t.bl.length) (h : t.rl.any (rtC kind z (t.bl.getD k bd0).1) = false) => hCE.symm.trans (cov_no hk h))
  have HYES := Lib.hid (fun (hv : inB kind 1 4 = true) (h : ∀ k, k < t.bl.length → t.rl.any (rtC kind ⟨#[]⟩ (t.bl.getD k bd0).1) = true) => hCE.symm.trans (cov_yes hv h))
  have HR := Lib.hid (fun (W : World) (h : Below W1.heap.size W1 W) (z b : ByteArray) (R : Bool) (hR : t.rl.any (rtC kind z b) = R) => refRate_any t kind z b R hR W hN ((hT.below hb1).below h))
  obtain ⟨k1, hk1⟩ : ∃ v, decide (kind < 1) = v := ⟨_, rfl⟩
  obtain ⟨k2, hk2⟩ : ∃ v, decide (5 ≤ kind) = v := ⟨_, rfl⟩
  have HKV : Hid (inB kind 1 4 = (!k1 && !k2)) := Lib.hid (inB_not hk1 (show decide (4 < kind) = k2 by rw [← hk2]; congr 1))
  have HCF : Hid (inB kind 1 4 = false → CE = false) := Lib.hid (fun h => by rw [← hCE]; unfold covE; rw [h]; rfl)
  rw [hCE]
  obtain ⟨tnm, tfr, tsp, ZA, zln, zcp, zl, BA, bn, bc, bl, RA, rn, rc, rl, DA, dn, dc, dl⟩ := t
  simp only [Tf.cells] at HBK hW1 HZ0 HB0 HZL HBL HNO HYES HR hbm hbc hzm hzc hz70 ⊢
  obtain ⟨a0, a1, a2, a3, a4, a5, a6⟩ := seven HBK.out
  clear hN hT hbk hb1 hCE
  have hex : k1 = true ∨ (k1 = false ∧ k2 = true) ∨ (k1 = false ∧ k2 = false) := by clear HKV hk1 hk2; cases k1 <;> cases k2 <;> simp
  rcases hex with rfl | ⟨rfl, rfl⟩ | ⟨rfl, rfl⟩
  · have HF := Lib.hid (HCF.out (by rw [HKV.out]; simp))
    go_enter Try.func20, Try.ntmps20
    go_wp2_with fail
    go_ret
    exact ⟨ret_b HF.out.symm, HB1.out⟩
  · have HF := Lib.hid (HCF.out (by rw [HKV.out]; simp))
    go_enter Try.func20, Try.ntmps20
    go_wp2_with fail
    go_ret
    exact ⟨ret_b HF.out.symm, HB1.out⟩
  go_enter Try.func20, Try.ntmps20
  go_wp2_with fail
  clear a0 a1 a2 a3 a4 a5 a6 hk1 hk2
  go_loopw [5] (fun iv wr => ∃ i : Nat, iv = .int .i64 i ∧ i ≤ zln + 1 ∧ Below W1.heap.size W1 wr ∧ Hid (zln < i → ∀ k, k < bl.length → rl.any (rtC kind ⟨#[]⟩ (bl.getD k bd0).1) = true)) (fun iv _ => zln + 1 - (RowKit.intOf iv).toNat)
  case atStart => exact ⟨0, rfl, by omega, Below.refl _ _, Lib.hid (fun h => absurd h (by omega))⟩
  case round =>
    obtain ⟨i, rfl, hi, hb, HA⟩ := hrel
    have hs := hb.size
    obtain ⟨a0, a1, a2, a3, a4, a5, a6⟩ := seven (HBK.out.below hb HBK.out.lt)
    by_cases hlt : i ≤ zln
    · have hlt' : decide ((i : Int) ≤ (zln : Int)) = true := decide_eq_true (by omega)
      have key : ∀ z : ByteArray, (i = zln → z = ⟨#[]⟩) → True := fun _ _ => trivial
      clear key
      by_cases hiz : i < zln
      · have hiz' : (i : Int) < (zln : Int) := by omega
        obtain ⟨bz, offz, P, cz, hAz, hblz, z0, z1, _⟩ := HZ0.out i (by rw [HZL.out]; exact hiz)
        have f0 := (hb.cell (p := ⟨bz, offz + i * 2, none⟩) hblz).trans z0
        obtain ⟨z, hz⟩ : ∃ z, (zl.getD i Zn.zm0).nm = z := ⟨_, rfl⟩
        rw [hz] at f0
        rw [hAz] at a3
        have HAZ := Lib.hid hAz
        subst hAz
        clear z0 z1 hz hblz
        go_wp2_with fail
        clear a0 a1 a2 a3 a4 a5 a6
        go_loopw [7] (fun jv wx => ∃ k : Nat, jv = .int .i64 k ∧ k ≤ bn ∧ Below wr.heap.size wr wx ∧ Hid (∀ j, j < k → rl.any (rtC kind z (bl.getD j bd0).1) = true)) (fun jv _ => bn - (RowKit.intOf jv).toNat)
        case atStart => exact ⟨0, rfl, by omega, Below.refl _ _, Lib.hid fun j h => absurd h (Nat.not_lt_zero j)⟩
        case round =>
          obtain ⟨k, rfl, hk, hx, HO⟩ := hrel
          have hbx := hb.trans (hx.mono hs)
          have hsx := hbx.size
          obtain ⟨a0, a1, a2, a3, a4, a5, a6⟩ := seven (HBK.out.below hbx HBK.out.lt)
          by_cases hkb : k < bn
          · have hkb' : (k : Int) < (bn : Int) := by omega
            have hkl : k < bl.length := by rw [HBL.out]; exact hkb
            obtain ⟨bb, offb, S, cb, hAb, hblb, y0, y1, _⟩ := HB0.out k hkl
            have e0 := (hbx.cell (p := ⟨bb, offb + k * 2, none⟩) hblb).trans y0
            obtain ⟨x, hxn⟩ : ∃ x, (bl.getD k bd0).1 = x := ⟨_, rfl⟩
            rw [hxn] at e0
            rw [hAb] at a4
            have HAB := Lib.hid hAb
            subst hAb
            obtain ⟨R, hR⟩ : ∃ R, rl.any (rtC kind z x) = R := ⟨_, rfl⟩
            have HRC := Lib.hid (fun (d : Nat) (os : Array Obj) => HR.out (Go.Sort.grow (redrawn wr d) os) (hbx.trans ((below_regrown _ _ _).mono hsx)) z x R hR)
            have HXR : Hid (rl.any (rtC kind z (bl.getD k bd0).1) = R) := Lib.hid (by rw [hxn]; exact hR)
            have HKL := Lib.hid hkl; have HBX := Lib.hid hbx
            have q0 := fun d os => cell_regrown a0 d os
            have q1 := fun d os => cell_regrown a1 d os
            have q2 := fun d os => cell_regrown a2 d os
            have q3 := fun d os => cell_regrown a3 d os
            have q4 := fun d os => cell_regrown a4 d os
            have q5 := fun d os => cell_regrown a5 d os
            have q6 := fun d os => cell_regrown a6 d os
            have q7 := fun d os => cell_regrown e0 d os
            clear y0 y1 hxn hR hkl hblb
            cases R
            · have HF := Lib.hid (HNO.out k z HKL.out HXR.out)
              go_wp2_with fail
              refine wp_region_quiet_below (by kernel_rfl) (by kernel_rfl) ?_
              iterate 11 (go_big_quiet_step ((with_reducible exact Calls.regrown_of (HRC.out _ _))))
              refine wpQuiet_nil ?_
              intro Wq hw'
              have HBQ : Hid (Below wr.heap.size wr Wq) := Lib.hid (by obtain ⟨⟨dq, osq⟩, hw''⟩ := hw'; rw [hw'']; exact below_regrown _ _ _)
              clear hw'
              go_wp2_with fail
              go_ret
              exact ⟨ret_b HF.out.symm, HB1.out.trans ((HBX.out.trans (HBQ.out.mono HBX.out.size)).mono HB1.out.size)⟩
            · have HO2 : Hid (∀ j, j < k + 1 → rl.any (rtC kind z (bl.getD j bd0).1) = true) := Lib.hid fun j h => by
                rcases Nat.lt_or_ge j k with h | h
                · exact HO.out j h
                · obtain rfl : j = k := by omega
                  exact HXR.out
              go_wp2_with fail
              refine wp_region_quiet_below (by kernel_rfl) (by kernel_rfl) ?_
              iterate 11 (go_big_quiet_step ((with_reducible exact Calls.regrown_of (HRC.out _ _))))
              refine wpQuiet_nil ?_
              intro Wq hw'
              have HBQ : Hid (Below wr.heap.size wr Wq) := Lib.hid (by obtain ⟨⟨dq, osq⟩, hw''⟩ := hw'; rw [hw'']; exact below_regrown _ _ _)
              clear hw' q0 q1 q2 q3 q4 q5 q6 q7
              go_wp2_with fail
              go_roundw
              case rel => exact ⟨k + 1, by go_num, by omega, hx.trans (HBQ.out.mono hx.size), HO2⟩
              case measure => simp [RowKit.intOf]; omega
          · obtain rfl : k = bn := by omega
            have hd2 : decide ((k : Int) < (k : Int)) = false := decide_eq_false (by omega)
            have HBX := Lib.hid hbx
            have HA2 : Hid (zln < i + 1 → ∀ k, k < bl.length → rl.any (rtC kind ⟨#[]⟩ (bl.getD k bd0).1) = true) := Lib.hid (fun h => absurd h (by omega))
            go_wp2_with fail
            go_roundw
            case rel => exact ⟨i + 1, by go_num, by omega, HBX.out, HA2⟩
            case measure => simp [RowKit.intOf]; omega
      · obtain rfl : i = zln := by omega
        have hd : decide ((i : Int) < (i : Int)) = false := decide_eq_false (by omega)
        go_wp2_with fail
        clear a0 a1 a2 a3 a4 a5 a6
        go_loopw [7] (fun jv wx => ∃ k : Nat, jv = .int .i64 k ∧ k ≤ bn ∧ Below wr.heap.size wr wx ∧ Hid (∀ j, j < k → rl.any (rtC kind ⟨#[]⟩ (bl.getD j bd0).1) = true)) (fun jv _ => bn - (RowKit.intOf jv).toNat)
        case atStart => exact ⟨0, rfl, by omega, Below.refl _ _, Lib.hid fun j h => absurd h (Nat.not_lt_zero j)⟩
        case round =>
          obtain ⟨k, rfl, hk, hx, HO⟩ := hrel
          have hbx := hb.trans (hx.mono hs)
          have hsx := hbx.size
          obtain ⟨a0, a1, a2, a3, a4, a5, a6⟩ := seven (HBK.out.below hbx HBK.out.lt)
          by_cases hkb : k < bn
          · have hkb' : (k : Int) < (bn : Int) := by omega
            have hkl : k < bl.length := by rw [HBL.out]; exact hkb
            obtain ⟨bb, offb, S, cb, hAb, hblb, y0, y1, _⟩ := HB0.out k hkl
            have e0 := (hbx.cell (p := ⟨bb, offb + k * 2, none⟩) hblb).trans y0
            obtain ⟨x, hxn⟩ : ∃ x, (bl.getD k bd0).1 = x := ⟨_, rfl⟩
            rw [hxn] at e0
            rw [hAb] at a4
            have HAB := Lib.hid hAb
            subst hAb
            obtain ⟨R, hR⟩ : ∃ R, rl.any (rtC kind ⟨#[]⟩ x) = R := ⟨_, rfl⟩
            have HRC := Lib.hid (fun (d : Nat) (os : Array Obj) => HR.out (Go.Sort.grow (redrawn wr d) os) (hbx.trans ((below_regrown _ _ _).mono hsx)) ⟨#[]⟩ x R hR)
            have HXR : Hid (rl.any (rtC kind ⟨#[]⟩ (bl.getD k bd0).1) = R) := Lib.hid (by rw [hxn]; exact hR)
            have HKL := Lib.hid hkl; have HBX := Lib.hid hbx
            have q0 := fun d os => cell_regrown a0 d os
            have q1 := fun d os => cell_regrown a1 d os
            have q2 := fun d os => cell_regrown a2 d os
            have q3 := fun d os => cell_regrown a3 d os
            have q4 := fun d os => cell_regrown a4 d os
            have q5 := fun d os => cell_regrown a5 d os
            have q6 := fun d os => cell_regrown a6 d os
            have q7 := fun d os => cell_regrown e0 d os
            clear y0 y1 hxn hR hkl hblb
            cases R
            · have HF := Lib.hid (HNO.out k ⟨#[]⟩ HKL.out HXR.out)
              go_wp2_with fail
              refine wp_region_quiet_below (by kernel_rfl) (by kernel_rfl) ?_
              iterate 11 (go_big_quiet_step ((with_reducible exact Calls.regrown_of (HRC.out _ _))))
              refine wpQuiet_nil ?_
              intro Wq hw'
              have HBQ : Hid (Below wr.heap.size wr Wq) := Lib.hid (by obtain ⟨⟨dq, osq⟩, hw''⟩ := hw'; rw [hw'']; exact below_regrown _ _ _)
              clear hw'
              go_wp2_with fail
              go_ret
              exact ⟨ret_b HF.out.symm, HB1.out.trans ((HBX.out.trans (HBQ.out.mono HBX.out.size)).mono HB1.out.size)⟩
            · have HO2 : Hid (∀ j, j < k + 1 → rl.any (rtC kind ⟨#[]⟩ (bl.getD j bd0).1) = true) := Lib.hid fun j h => by
                rcases Nat.lt_or_ge j k with h | h
                · exact HO.out j h
                · obtain rfl : j = k := by omega
                  exact HXR.out
              go_wp2_with fail
              refine wp_region_quiet_below (by kernel_rfl) (by kernel_rfl) ?_
              iterate 11 (go_big_quiet_step ((with_reducible exact Calls.regrown_of (HRC.out _ _))))
              refine wpQuiet_nil ?_
              intro Wq hw'
              have HBQ : Hid (Below wr.heap.size wr Wq) := Lib.hid (by obtain ⟨⟨dq, osq⟩, hw''⟩ := hw'; rw [hw'']; exact below_regrown _ _ _)
              clear hw' q0 q1 q2 q3 q4 q5 q6 q7
              go_wp2_with fail
              go_roundw
              case rel => exact ⟨k + 1, by go_num, by omega, hx.trans (HBQ.out.mono hx.size), HO2⟩
              case measure => simp [RowKit.intOf]; omega
          · obtain rfl : k = bn := by omega
            have hd2 : decide ((k : Int) < (k : Int)) = false := decide_eq_false (by omega)
            have HBX := Lib.hid hbx
            have HA2 : Hid (i < i + 1 → ∀ k, k < bl.length → rl.any (rtC kind ⟨#[]⟩ (bl.getD k bd0).1) = true) := Lib.hid (fun _ k hk => HO.out k (by rw [← HBL.out]; exact hk))
            go_wp2_with fail
            go_roundw
            case rel => exact ⟨i + 1, by go_num, by omega, HBX.out, HA2⟩
            case measure => simp [RowKit.intOf] <;> omega
    · obtain rfl : i = zln + 1 := by omega
      have hd : decide ((((zln + 1 : Nat)) : Int) ≤ (zln : Int)) = false := decide_eq_false (by omega)
      have HF := Lib.hid (HYES.out (by rw [HKV.out]; rfl) (HA.out (by omega)))
      go_wp2_with fail
      go_ret
      exact ⟨ret_b HF.out.symm, HB1.out.trans (hb.mono HB1.out.size)⟩
end Go.Proofs.Ytolgfkkjbefecaa.Ck
