/- Walks of the reference: Texts, Same. -/
import Derived.Test.YtflonakoagjmhaaZnEz
import Derived.RegionTactic
namespace Go.Proofs.Ytflonakoagjmhaa.Zn
open Go.RowKit Go.Lib Go.Shelf Go.Proofs.Ytflonakoagjmhaa Go.Maps

theorem drew_two {w a : World} {t : Nat} (h : a = w.drewN t) (n : Nat) : ∃ m, a.drewN n = w.drewN m := ⟨t + n, by rw [h, World.drewN_drewN]⟩
theorem texts_eq {l q : List ByteArray} (h : l.length = q.length) : l = q ↔ ∀ j, j < l.length → l.getD j ⟨#[]⟩ = q.getD j ⟨#[]⟩ := by
  constructor
  · rintro rfl j _; rfl
  · intro hj
    refine List.ext_getElem h fun j h1 h2 => ?_
    have := hj j h1
    simpa [List.getD_eq_getElem?_getD, List.getElem?_eq_getElem h1, List.getElem?_eq_getElem h2] using this
set_option maxRecDepth 100000 in
set_option maxHeartbeats 8000000 in
theorem texts_any (A B : Option Addr) (n c m d : Nat) (l q : List ByteArray) (w : World) (hA : TsR w A l) (hn : l.length = n) (hB : TsR w B q) (hm1 : q.length = m) (h6 : n ≤ 1000000) (v : Bool) (hv : v = true ↔ l = q) (s : Nat) :
    Calls Try.prog 13 #[.slice A n c, .slice B m d] (w.drewN s) fun e w' => e = .returned (.bool v) ∧ ∃ t, w' = w.drewN t := by
  by_cases hnm : n = m
  · subst hnm
    have HA := Lib.hid hA; have HN := Lib.hid hn; have HB := Lib.hid hB; have HM := Lib.hid hm1
    have HV := Lib.hid (hv.trans (texts_eq (by rw [hn, hm1])))
    have d0 : ((n : Int) != (n : Int)) = false := by simp
    clear hA hn hB hm1 hv
    go_enter Try.func13, Try.ntmps13
    go_wp2_with fail
    clear d0
    go_loopw [5] (fun iv wr => ∃ k t : Nat, iv = .int .i64 k ∧ k ≤ n ∧ wr = w.drewN t ∧ Hid (∀ j, j < k → l.getD j ⟨#[]⟩ = q.getD j ⟨#[]⟩)) (fun iv _ => n - (intOf iv).toNat)
    case atStart => exact ⟨0, s, rfl, by omega, rfl, Lib.hid fun j h => absurd h (Nat.not_lt_zero j)⟩
    case round =>
      obtain ⟨k, t, rfl, hk, hw, HO⟩ := hrel
      have hb : Below w.heap.size w wr := by rw [hw]; exact below_drewN (Below.refl _ _) _
      have HW := Lib.hid hw
      clear hw
      by_cases hlt : k < n
      · have hlt' : (k : Int) < (n : Int) := by omega
        have hk0 : (0 : Int) ≤ (k : Int) := by omega
        obtain ⟨b1, o1, rfl, hb1, g1⟩ := HA.out k (by rw [HN.out]; exact hlt)
        obtain ⟨b2, o2, rfl, hb2, g2⟩ := HB.out k (by rw [HM.out]; exact hlt)
        have g1 := (hb.cell (p := ⟨b1, o1 + k, none⟩) hb1).trans g1
        have g2 := (hb.cell (p := ⟨b2, o2 + k, none⟩) hb2).trans g2
        obtain ⟨x, hx⟩ : ∃ x, l.getD k ⟨#[]⟩ = x := ⟨_, rfl⟩
        obtain ⟨y, hy⟩ : ∃ y, q.getD k ⟨#[]⟩ = y := ⟨_, rfl⟩
        rw [hx] at g1
        rw [hy] at g2
        have HX := Lib.hid (And.intro hx hy)
        clear hx hy hb1 hb2
        cases hq : (x.toList == y.toList)
        · have HT : Hid (v = false) := Lib.hid (by
            cases hv : v with
            | false => rfl
            | true =>
              have h1 := HV.out.1 hv k (by rw [HN.out]; exact hlt)
              rw [HX.out.1, HX.out.2] at h1
              rw [h1] at hq; simp at hq)
          go_wp2_with fail
          go_quiet (fail)
          go_wp2_with fail
          go_ret
          exact ⟨ret_bool HT.out.symm, drew_two HW.out _⟩
        · have HO2 : Hid (∀ j, j < k + 1 → l.getD j ⟨#[]⟩ = q.getD j ⟨#[]⟩) := Lib.hid (fun j hj => by
            rcases Nat.lt_or_ge j k with h | h
            · exact HO.out j h
            · obtain rfl : j = k := by omega
              rw [HX.out.1, HX.out.2]
              rw [sEq] at hq
              exact ba_ext (by simpa using hq))
          go_wp2_with fail
          go_quiet (fail)
          go_wp2_with fail
          go_roundw
          case rel => obtain ⟨t2, ht2⟩ := drew_two HW.out _; exact ⟨k + 1, t2, by go_num, by omega, ht2, HO2⟩
          case measure => simp [intOf] <;> omega
      · obtain rfl : k = n := by omega
        have HT : Hid (v = true) := Lib.hid (HV.out.2 fun j hj => HO.out j (by rw [← HN.out]; exact hj))
        go_wp2_with fail
        go_ret
        exact ⟨ret_bool HT.out.symm, _, HW.out⟩
  · have d0 : ((n : Int) != (m : Int)) = true := by simp; omega
    have hvf : v = false := by
      cases hh : v with
      | false => rfl
      | true => exact absurd (by rw [← hn, ← hm1, hv.1 hh]) hnm
    clear hA hB hn hm1 hv
    subst hvf
    go_enter Try.func13, Try.ntmps13
    go_wp2
    go_ret
    exact ⟨rfl, s, rfl⟩
set_option maxRecDepth 100000 in
set_option maxHeartbeats 8000000 in
theorem same_any (A B : Option Addr) (n c m d : Nat) (l q : List Zm) (w : World) (hA : ZsR w A l) (hn : l.length = n) (hn6 : n ≤ 1000000) (hf : Fit l) (hB : ZsR w B q) (hm1 : q.length = m) (hm6 : m ≤ 1000000) (hg : Fit q) (v : Bool) (hv : v = true ↔ l = q) :
    Calls Try.prog 20 #[.slice A n c, .slice B m d] w fun e w' => e = .returned (.bool v) ∧ Below w.heap.size w w' := by
  by_cases hnm : n = m
  · subst hnm
    have HA := Lib.hid hA; have HN := Lib.hid hn; have HF := Lib.hid hf; have HB := Lib.hid hB; have HM := Lib.hid hm1; have HG := Lib.hid hg
    have HV := Lib.hid (hv.trans (list_eq (by rw [hn, hm1])))
    have d0 : ((n : Int) != (n : Int)) = false := by simp
    clear hA hn hf hB hm1 hg hv
    go_enter Try.func20, Try.ntmps20
    go_wp2_with fail
    clear d0
    go_loopw [5] (fun iv wr => ∃ k t : Nat, iv = .int .i64 k ∧ k ≤ n ∧ wr = w.drewN t ∧ Hid (∀ j, j < k → l.getD j zm0 = q.getD j zm0)) (fun iv _ => n - (intOf iv).toNat)
    case atStart => exact ⟨0, 0, rfl, by omega, rfl, Lib.hid fun j h => absurd h (Nat.not_lt_zero j)⟩
    case round =>
      obtain ⟨k, t, rfl, hk, hw, HO⟩ := hrel
      have hb : Below w.heap.size w wr := by rw [hw]; exact below_drewN (Below.refl _ _) _
      have HW := Lib.hid hw
      clear hw
      by_cases hlt : k < n
      · have hlt' : (k : Int) < (n : Int) := by omega
        have hk0 : (0 : Int) ≤ (k : Int) := by omega
        obtain ⟨bk, off, P, c2, rfl, hbl, g0, g1, g2, g3, g4, g5⟩ := HA.out k (by rw [HN.out]; exact hlt)
        obtain ⟨bj, off2, Q, c3, rfl, hbl2, f0, f1, f2, f3, f4, f5⟩ := HB.out k (by rw [HM.out]; exact hlt)
        have g0 := (hb.cell (p := ⟨bk, off + k * 2, none⟩) hbl).trans g0
        have g1 := (hb.cell (p := ⟨bk, off + k * 2 + 1, none⟩) hbl).trans g1
        have f0 := (hb.cell (p := ⟨bj, off2 + k * 2, none⟩) hbl2).trans f0
        have f1 := (hb.cell (p := ⟨bj, off2 + k * 2 + 1, none⟩) hbl2).trans f1
        have hfx := (HF.out.at (by rw [HN.out]; exact hlt) (rfl : l.getD k zm0 = l.getD k zm0)).1
        have hfy := (HG.out.at (by rw [HM.out]; exact hlt) (rfl : q.getD k zm0 = q.getD k zm0)).1
        obtain ⟨x, hx⟩ : ∃ x, l.getD k zm0 = x := ⟨_, rfl⟩
        obtain ⟨y, hy⟩ : ∃ y, q.getD k zm0 = y := ⟨_, rfl⟩
        rw [hx] at g0 g1 g4 hfx
        rw [hy] at f0 f1 f4 hfy
        have HX := Lib.hid (And.intro hx hy)
        have HC := Lib.hid (fun (v : Bool) (hv : v = true ↔ x.ps = y.ps) (s : Nat) => texts_any P Q x.ps.length c2 y.ps.length c3 x.ps y.ps wr (g4.below hb) rfl (f4.below hb) rfl hfx v hv s)
        have HZE := Lib.hid (zm_eq x y)
        obtain ⟨xn, xs⟩ := x
        obtain ⟨yn, ys⟩ := y
        simp only at g0 g1 f0 f1 HC HZE
        obtain ⟨xl, hxl⟩ : ∃ m, xs.length = m := ⟨_, rfl⟩
        obtain ⟨yl, hyl⟩ : ∃ m, ys.length = m := ⟨_, rfl⟩
        rw [hxl] at g1 HC
        rw [hyl] at f1 HC
        clear g2 g3 g4 g5 f2 f3 f4 f5 hx hy hxl hyl hfx hfy hbl hbl2
        cases hq : (xn.toList == yn.toList)
        · have HT : Hid (v = false) := Lib.hid (by
            cases hv : v with
            | false => rfl
            | true =>
              have h1 := HV.out.1 hv k (by rw [HN.out]; exact hlt)
              rw [HX.out.1, HX.out.2] at h1
              have := HZE.out.2 h1
              rw [hq] at this; cases this)
          go_wp2_with fail
          go_quiet (fail)
          go_wp2_with fail
          go_ret
          exact ⟨ret_bool HT.out.symm, by first | exact hb | exact below_drewN hb _⟩
        · cases hd : decide (xs = ys)
          · have HT : Hid (v = false) := Lib.hid (by
              cases hv : v with
              | false => rfl
              | true =>
                have h1 := HV.out.1 hv k (by rw [HN.out]; exact hlt)
                rw [HX.out.1, HX.out.2] at h1
                have := HZE.out.2 h1
                rw [hd, hq] at this; cases this)
            have HC1 := Lib.hid (HC.out false (by
              have h := of_decide_eq_false hd
              constructor
              · intro h2; cases h2
              · intro h2; exact absurd h2 h))
            clear hd
            go_wp2_with fail
            go_quiet ((go_at_call 13; exact HC1.out _))
            go_wp2_with fail
            go_ret
            exact ⟨ret_bool HT.out.symm, by first | exact hb | exact below_drewN hb _⟩
          · have HO2 : Hid (∀ j, j < k + 1 → l.getD j zm0 = q.getD j zm0) := Lib.hid (fun j hj => by
              rcases Nat.lt_or_ge j k with h | h
              · exact HO.out j h
              · obtain rfl : j = k := by omega
                rw [HX.out.1, HX.out.2]
                exact HZE.out.1 (by rw [hq, hd]; rfl))
            have HC1 := Lib.hid (HC.out true (by
              have h := of_decide_eq_true hd
              exact ⟨fun _ => h, fun _ => rfl⟩))
            clear hd
            go_wp2_with fail
            go_quiet ((go_at_call 13; exact HC1.out _))
            go_wp2_with fail
            go_roundw
            case rel => obtain ⟨t2, ht2⟩ := drew_two HW.out _; exact ⟨k + 1, t2, by go_num, by omega, ht2, HO2⟩
            case measure => simp [intOf] <;> omega
      · obtain rfl : k = n := by omega
        have HT : Hid (v = true) := Lib.hid (HV.out.2 fun j hj => HO.out j (by rw [← HN.out]; exact hj))
        go_wp2_with fail
        go_ret
        exact ⟨ret_bool HT.out.symm, by first | exact hb | exact below_drewN hb _⟩
  · have d0 : ((n : Int) != (m : Int)) = true := by simp; omega
    have hvf : v = false := by
      cases hh : v with
      | false => rfl
      | true => exact absurd (by rw [← hn, ← hm1, hv.1 hh]) hnm
    clear hA hB hf hg hn hm1 hv
    subst hvf
    go_enter Try.func20, Try.ntmps20
    go_wp2
    go_ret
    exact ⟨rfl, Below.refl _ _⟩
end Go.Proofs.Ytflonakoagjmhaa.Zn
