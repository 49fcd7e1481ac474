/- Walks: slices.Equal of texts, slices.EqualFunc of zones, zones.Equal. -/
import Derived.Test.YtflonakoagjmhaaZnMw
namespace Go.Proofs.Ytflonakoagjmhaa.Zn
open Go.RowKit Go.Lib Go.Shelf Go.Proofs.Ytflonakoagjmhaa Go.Maps

theorem sEqual_any {w : World} {P Q : Option Addr} {ps qs : List ByteArray} (c d : Nat) (hP : TsR w P ps) (hQ : TsR w Q qs) (h1 : ps.length ≤ 1000000) (h2 : qs.length ≤ 1000000) :
    Calls Try.prog 32 #[.slice P ps.length c, .slice Q qs.length d] w fun e w' => e = .returned (.bool (decide (ps = qs))) ∧ Below w.heap.size w w' := by
  by_cases hl : ps.length = qs.length
  · by_cases h0 : ps.length = 0
    · have e1 := List.length_eq_zero_iff.1 h0
      have e2 := List.length_eq_zero_iff.1 (hl ▸ h0)
      subst e1 e2
      refine (Try.slices_Equal_string_empty P Q c 0 d w (by omega)).mono ?_
      rintro e w' ⟨rfl, rfl⟩
      exact ⟨rfl, Below.refl _ _⟩
    · obtain ⟨b1, o1, rfl, hb1, -⟩ := hP 0 (by omega)
      obtain ⟨b2, o2, rfl, hb2, -⟩ := hQ 0 (by omega)
      refine (Try.slices_Equal_string b1 o1 ps.length c b2 o2 qs.length d ps qs w (Nat.le_refl _) (Nat.le_refl _) (by omega) (by omega) (fun j hj => ?_) (fun j hj => ?_)).mono ?_
      · obtain ⟨b, o, he, -, hc⟩ := hP j hj
        injection he with he; injection he with h3 h4
        rw [h3, h4]; exact hc
      · obtain ⟨b, o, he, -, hc⟩ := hQ j hj
        injection he with he; injection he with h3 h4
        rw [h3, h4]; exact hc
      · rintro e w' ⟨rfl, q, rfl⟩
        rw [List.take_length, List.take_length]
        exact ⟨rfl, below_drewN (Below.refl _ _) q⟩
  · refine (Try.slices_Equal_string_lens P Q ps.length c qs.length d w hl).mono ?_
    rintro e w' ⟨rfl, rfl⟩
    exact ⟨by rw [decide_eq_false (fun h => hl (by rw [h]))], Below.refl _ _⟩
theorem two_new (w : World) (cs ds : Array Value) (t : TypeId) : Below w.heap.size w ((w.alloc (.cells cs t)).alloc (.cells ds t)) := ((Below.refl _ w).alloc (Nat.le_refl _) _).alloc (by simp) _
set_option maxHeartbeats 4000000 in
theorem eq1_any (x y : Zm) (P Q : Option Addr) (c d : Nat) (W : World) (hP : TsR W P x.ps) (hQ : TsR W Q y.ps) (h1 : x.ps.length ≤ 1000000) (h2 : y.ps.length ≤ 1000000) (v : Bool) (hv : ((x.nm.toList == y.nm.toList) && decide (x.ps = y.ps)) = v) :
    Calls Try.prog 31 #[.agg #[.string x.nm, .slice P x.ps.length c], .agg #[.string y.nm, .slice Q y.ps.length d]] W fun e w' => e = .returned (.bool v) ∧ Below W.heap.size W w' := by
  obtain ⟨xn, xs⟩ := x
  obtain ⟨yn, ys⟩ := y
  simp only at *
  obtain ⟨n, hn⟩ : ∃ n, xs.length = n := ⟨_, rfl⟩
  obtain ⟨m, hm⟩ : ∃ m, ys.length = m := ⟨_, rfl⟩
  have hbl := two_new W #[.string xn, .slice P n c] #[.string yn, .slice Q m d] 37
  have HS := Lib.hid (sEqual_any c d (hP.below hbl) (hQ.below hbl) h1 h2)
  rw [hn, hm] at HS ⊢
  have HB := Lib.hid hbl
  have k1 := ((Blk.new W 37 #[.string xn, .slice P n c]).alloc (.cells #[.string yn, .slice Q m d] 37)).two
  have k2 := (Blk.new (W.alloc (.cells #[.string xn, .slice P n c] 37)) 37 #[.string yn, .slice Q m d]).two
  rw [World.size_alloc] at k2
  obtain ⟨c0, c1⟩ := k1
  obtain ⟨d0, d1⟩ := k2
  clear hP hQ h1 h2 hn hm hbl
  cases hx : (xn.toList == yn.toList)
  · rw [hx, Bool.false_and] at hv
    subst hv
    go_enter Try.func31, Try.ntmps31
    go_wp2
    go_ret
    exact ⟨rfl, HB.out⟩
  · rw [hx, Bool.true_and] at hv
    rw [hv] at HS
    clear hv
    go_enter Try.func31, Try.ntmps31
    go_wp2_with (go_at_call 32; (with_reducible refine HS.out.mono ?_); rintro e w1 ⟨rfl, hb⟩)
    go_ret
    exact ⟨rfl, HB.out.trans (hb.mono HB.out.size)⟩
theorem zm_eq (x y : Zm) : ((x.nm.toList == y.nm.toList) && decide (x.ps = y.ps)) = true ↔ x = y := by
  rw [sEq]
  simp only [Bool.and_eq_true, beq_iff_eq, decide_eq_true_eq]
  constructor
  · rintro ⟨h1, h2⟩
    obtain ⟨xn, xs⟩ := x
    obtain ⟨yn, ys⟩ := y
    simp only at h1 h2
    rw [ba_ext h1, h2]
  · rintro rfl; exact ⟨rfl, rfl⟩
theorem list_eq {l q : List Zm} (h : l.length = q.length) : l = q ↔ ∀ j, j < l.length → l.getD j zm0 = q.getD j zm0 := by
  constructor
  · rintro rfl j _; rfl
  · intro hj
    refine List.ext_getElem h fun j h1 h2 => ?_
    have := hj j h1
    simpa [List.getD_eq_getElem?_getD, List.getElem?_eq_getElem h1, List.getElem?_eq_getElem h2] using this
set_option maxRecDepth 100000 in
set_option maxHeartbeats 8000000 in
theorem equalF_any (A B : Option Addr) (n c m d : Nat) (l q : List Zm) (w : World) (hA : ZsR w A l) (hn : l.length = n) (hn6 : n ≤ 1000000) (hf : Fit l) (hB : ZsR w B q) (hm1 : q.length = m) (hm6 : m ≤ 1000000) (hg : Fit q) (v : Bool) (hv : v = true ↔ l = q) :
    Calls Try.prog 33 #[.slice A n c, .slice B m d, .func (.func 31) #[] #[]] w fun e w' => e = .returned (.bool v) ∧ Below w.heap.size w w' := by
  by_cases hnm : n = m
  · subst hnm
    have HA := Lib.hid hA; have HN := Lib.hid hn; have HF := Lib.hid hf; have HB := Lib.hid hB; have HM := Lib.hid hm1; have HG := Lib.hid hg
    have HV := Lib.hid (hv.trans (list_eq (by rw [hn, hm1])))
    have d0 : ((n : Int) != (n : Int)) = false := by simp
    clear hA hn hf hB hm1 hg hv
    go_enter Try.func33, Try.ntmps33
    go_wp2_with fail
    clear d0
    go_loopw [17] (fun iv wr => ∃ k : Nat, iv = .int .i64 k ∧ k ≤ n ∧ Below w.heap.size w wr ∧ Hid (∀ j, j < k → l.getD j zm0 = q.getD j zm0)) (fun iv _ => n - (intOf iv).toNat)
    case atStart => exact ⟨0, rfl, by omega, Below.refl _ _, Lib.hid fun j h => absurd h (Nat.not_lt_zero j)⟩
    case round =>
      obtain ⟨k, rfl, hk, hb, HO⟩ := hrel
      have hs := hb.size
      by_cases hlt : k < n
      · have hlt' : (k : Int) < (n : Int) := by omega
        obtain ⟨bk, off, P, c2, rfl, hbl, g0, g1, g2, g3, g4, g5⟩ := HA.out k (by rw [HN.out]; exact hlt)
        obtain ⟨bj, off2, Q, c3, rfl, hbl2, f0, f1, f2, f3, f4, f5⟩ := HB.out k (by rw [HM.out]; exact hlt)
        have e0 := (hb.cell (p := ⟨bk, off + k * 2, none⟩) hbl).trans g0
        have e1 := (hb.cell (p := ⟨bk, off + k * 2 + 1, none⟩) hbl).trans g1
        have e2 := (hb.cell (p := ⟨bj, off2 + k * 2, none⟩) hbl2).trans f0
        have e3 := (hb.cell (p := ⟨bj, off2 + k * 2 + 1, none⟩) hbl2).trans f1
        have hfx := (HF.out.at (by rw [HN.out]; exact hlt) (rfl : l.getD k zm0 = l.getD k zm0)).1
        have hfy := (HG.out.at (by rw [HM.out]; exact hlt) (rfl : q.getD k zm0 = q.getD k zm0)).1
        obtain ⟨x, hx⟩ : ∃ x, l.getD k zm0 = x := ⟨_, rfl⟩
        obtain ⟨y, hy⟩ : ∃ y, q.getD k zm0 = y := ⟨_, rfl⟩
        rw [hx] at e0 e1 g4 hfx
        rw [hy] at e2 e3 f4 hfy
        obtain ⟨vv, hvv⟩ : ∃ vv, ((x.nm.toList == y.nm.toList) && decide (x.ps = y.ps)) = vv := ⟨_, rfl⟩
        have HVV := Lib.hid (show vv = true ↔ x = y from hvv ▸ zm_eq x y)
        have HC := Lib.hid (fun (W : World) (h : Below w.heap.size w W) => eq1_any x y P Q c2 c3 W (g4.below h) (f4.below h) hfx hfy vv hvv)
        have HX := Lib.hid (And.intro hx hy)
        obtain ⟨xn, xs⟩ := x
        obtain ⟨yn, ys⟩ := y
        simp only at e0 e1 e2 e3 HC
        obtain ⟨xl, hxl⟩ : ∃ m, xs.length = m := ⟨_, rfl⟩
        obtain ⟨yl, hyl⟩ : ∃ m, ys.length = m := ⟨_, rfl⟩
        rw [hxl] at e1 HC
        rw [hyl] at e3 HC
        have hbn : Hid (Below w.heap.size w ((wr.alloc (.cells #[.string xn, .slice P xl c2] 37)).alloc (.cells #[.string yn, .slice Q yl c3] 37))) := Lib.hid (hb.trans ((two_new wr _ _ _).mono hs))
        have k1 := ((Blk.new wr 37 #[.string xn, .slice P xl c2]).alloc (.cells #[.string yn, .slice Q yl c3] 37)).two
        have k2 := (Blk.new (wr.alloc (.cells #[.string xn, .slice P xl c2] 37)) 37 #[.string yn, .slice Q yl c3]).two
        rw [World.size_alloc] at k2
        obtain ⟨c0, c1⟩ := k1
        obtain ⟨d0, d1⟩ := k2
        have e2' := (World.cell?_of_block (a := ⟨bj, off2 + k * 2, none⟩) (Below.heap_alloc wr (.cells #[.string xn, .slice P xl c2] 37) bj (Nat.lt_of_lt_of_le hbl2 hs))).trans e2
        have e3' := (World.cell?_of_block (a := ⟨bj, off2 + k * 2 + 1, none⟩) (Below.heap_alloc wr (.cells #[.string xn, .slice P xl c2] 37) bj (Nat.lt_of_lt_of_le hbl2 hs))).trans e3
        clear g0 g1 g2 g3 g4 g5 f0 f1 f2 f3 f4 f5 hx hy hvv hxl hyl hfx hfy hbl hbl2 e2 e3
        cases vv
        · have HT : Hid (v = false) := Lib.hid (by
            cases hv : v with
            | false => rfl
            | true =>
              have h1 := HV.out.1 hv k (by rw [HN.out]; exact hlt)
              rw [HX.out.1, HX.out.2] at h1
              have := HVV.out.2 h1
              cases this)
          go_wp2_with (go_at_call 31; (with_reducible refine (HC.out _ hbn.out).mono ?_); rintro e w1 ⟨rfl, hb1⟩; have hb2 := hbn.out.trans (hb1.mono hbn.out.size))
          go_ret
          exact ⟨ret_bool HT.out.symm, hb2⟩
        · have HO2 : Hid (∀ j, j < k + 1 → l.getD j zm0 = q.getD j zm0) := Lib.hid (fun j hj => by
            rcases Nat.lt_or_ge j k with h | h
            · exact HO.out j h
            · obtain rfl : j = k := by omega
              rw [HX.out.1, HX.out.2]
              exact HVV.out.1 rfl)
          go_wp2_with (go_at_call 31; (with_reducible refine (HC.out _ hbn.out).mono ?_); rintro e w1 ⟨rfl, hb1⟩; have hb2 := hbn.out.trans (hb1.mono hbn.out.size))
          go_roundw
          case rel => exact ⟨k + 1, by go_num, by omega, hb2, HO2⟩
          case measure => simp [intOf] <;> omega
      · obtain rfl : k = n := by omega
        have HT : Hid (v = true) := Lib.hid (HV.out.2 fun j hj => HO.out j (by rw [← HN.out]; exact hj))
        go_wp2_with fail
        go_ret
        exact ⟨ret_bool HT.out.symm, hb⟩
  · have d0 : ((n : Int) != (m : Int)) = true := by simp; omega
    have hvf : v = false := by
      cases hh : v with
      | false => rfl
      | true => exact absurd (by rw [← hn, ← hm1, hv.1 hh]) hnm
    clear hA hB hf hg hn hm1 hv
    subst hvf
    go_enter Try.func33, Try.ntmps33
    go_wp2
    go_ret
    exact ⟨rfl, Below.refl _ _⟩
end Go.Proofs.Ytflonakoagjmhaa.Zn
