/- Walks: zones.Equal; the reference's Texts and Same. -/
import Derived.Test.YtflonakoagjmhaaZnEq
namespace Go.Proofs.Ytflonakoagjmhaa.Zn
open Go.RowKit Go.Lib Go.Shelf Go.Proofs.Ytflonakoagjmhaa Go.Maps

theorem zo_inj {x y : Zm} (h : x.zo = y.zo) : x = y := by
  obtain ⟨xn, xs⟩ := x
  obtain ⟨yn, ys⟩ := y
  have h4 : xn.data.toList = yn.data.toList := congrArg Zo.nm h
  have h5 : xs.map (fun s => s.data.toList) = ys.map (fun s => s.data.toList) := congrArg Zo.ps h
  have hi : ∀ {p q : List ByteArray}, p.map (fun s => s.data.toList) = q.map (fun s => s.data.toList) → p = q := by
    intro p
    induction p with
    | nil => intro q h; cases q with
      | nil => rfl
      | cons _ _ => cases h
    | cons x p ih => intro q h; cases q with
      | nil => cases h
      | cons y q =>
        rw [List.map_cons, List.map_cons] at h
        injection h with h7 h8
        rw [ba_ext h7, ih h8]
  rw [ba_ext h4, hi h5]
theorem zos_inj {a b : List Zm} : zos a = zos b ↔ a = b := by
  constructor
  · intro h
    have hl : a.length = b.length := by rw [← zos_len a, ← zos_len b, h]
    refine List.ext_getElem hl fun j h1 h2 => ?_
    have h3 : (zos a)[j]'(by rw [zos_len]; exact h1) = (zos b)[j]'(by rw [zos_len]; exact h2) := by simp only [h]
    rw [zos_get h1, zos_get h2] at h3
    have e1 : a.getD j zm0 = a[j] := by simp [List.getD_eq_getElem?_getD, List.getElem?_eq_getElem h1]
    have e2 : b.getD j zm0 = b[j] := by simp [List.getD_eq_getElem?_getD, List.getElem?_eq_getElem h2]
    rw [e1, e2] at h3
    exact zo_inj h3
  · rintro rfl; rfl
set_option maxRecDepth 100000 in
set_option maxHeartbeats 8000000 in
theorem equal_any (A B : Option Addr) (n c m d : Nat) (l q : List Zm) (w : World) (hA : ZsR w A l) (hn : l.length = n) (hc : n ≤ c) (hm : c ≤ maxLen) (hf : Fit l) (hB : ZsR w B q) (hm1 : q.length = m) (hd : m ≤ d) (hdm : d ≤ maxLen) (hg : Fit q) :
    Calls Try.prog 18 #[.slice A n c, .slice B m d] w fun e w' => e = .returned (.bool (eqZ (zos l) (zos q))) ∧ Below w.heap.size w w' := by
  have HC := Lib.hid (check_any A n c l w hA hn hc hm hf)
  have HD := Lib.hid (fun (W : World) (h : Below w.heap.size w W) => check_any B m d q W (hB.below h) hm1 hd hdm hg)
  have HM1 := Lib.hid (fun (W : World) (h : Below w.heap.size w W) => minimal_any A n c l W (hA.below h) hn hc hm hf)
  have HM2 := Lib.hid (fun (W : World) (h : Below w.heap.size w W) => minimal_any B m d q W (hB.below h) hm1 hd hdm hg)
  clear hA hB hf hg hn hm1
  obtain ⟨e1, h1⟩ : ∃ e, ckZ (zos l) = e := ⟨_, rfl⟩
  obtain ⟨e2, h2⟩ : ∃ e, ckZ (zos q) = e := ⟨_, rfl⟩
  have HE1 := Lib.hid h1; have HE2 := Lib.hid h2
  have HZ : Hid (e1 ≠ 0 ∨ e2 ≠ 0 → eqZ (zos l) (zos q) = false) := Lib.hid (by
    intro h; unfold eqZ; rw [h1, h2]
    rcases h with h | h
    · rw [decide_eq_false h]; simp
    · rw [decide_eq_false h]; simp)
  rw [h1] at HC
  rw [h2] at HD
  unfold MnOut at HM1 HM2
  rw [h1] at HM1
  rw [h2] at HM2
  obtain ⟨v, hv⟩ : ∃ v, eqZ (zos l) (zos q) = v := ⟨_, rfl⟩
  rw [hv] at HZ ⊢
  have HVV := Lib.hid hv
  clear h1 h2 hv
  by_cases z1 : e1 = 0
  · subst z1
    by_cases z2 : e2 = 0
    · subst z2
      simp only [if_true] at HM1 HM2
      have HV1 := Lib.hid (ck_vld.1 HE1.out); have HV2 := Lib.hid (ck_vld.1 HE2.out)
      go_enter Try.func18, Try.ntmps18
      go_wp2_with (first
        | (go_at_call 11; (with_reducible refine HC.out.mono ?_); rintro e w1 ⟨rfl, hb⟩; have hs := hb.size)
        | (go_at_call 11; (with_reducible refine (HD.out _ hb).mono ?_); rintro e w2 ⟨rfl, hb2⟩; have hb3 := hb.trans (hb2.mono hs))
        | (go_at_call 21; (with_reducible refine (HM1.out _ hb3).mono ?_); rintro e w3 ⟨A1, c1, M1, rfl, x1, x2, x3, x4, x5, x6, x7⟩; have hb4 := hb3.trans (x7.mono hb3.size); have HX := Lib.hid (And.intro x3 (And.intro x4 (And.intro x5 x6))); clear x1 x2 x3 x4 x5 x6 x7)
        | (go_at_call 21; (with_reducible refine (HM2.out _ hb4).mono ?_); rintro e w4 ⟨A2, c2, M2, rfl, y1, y2, y3, y4, y5, y6, y7⟩; have hb5 := hb4.trans (y7.mono hb4.size); have HY := Lib.hid (And.intro (HX.out.1.below y7) (And.intro y3 (And.intro y4 (And.intro y5 y6)))); have HQ := Lib.hid (equalF_any A1 A2 M1.length c1 M2.length c2 M1 M2 _ HY.out.1 rfl (by have := HX.out.2.2.2; have := HV1.out.len; omega) HX.out.2.2.1 HY.out.2.1 rfl (by have := HY.out.2.2.2.2; have := HV2.out.len; omega) HY.out.2.2.2.1 v (by rw [← HVV.out, eqZ_lk HV1.out HV2.out, ← eq_min HV1.out HV2.out HX.out.2.1 HY.out.2.2.1, zos_inj])); clear y1 y2 y3 y4 y5 y6 y7)
        | (go_at_call 33; (with_reducible refine HQ.out.mono ?_); rintro e w5 ⟨rfl, hb6⟩; have hb7 := hb5.trans (hb6.mono hb5.size)))
      go_ret
      exact ⟨rfl, hb7⟩
    · have d2 : (e2 == 0) = false := by rw [beq_eq_false_iff_ne]; exact z2
      have hvf := HZ.out (.inr z2)
      subst hvf
      clear HM1 HM2
      go_enter Try.func18, Try.ntmps18
      go_wp2_with (first
        | (go_at_call 11; (with_reducible refine HC.out.mono ?_); rintro e w1 ⟨rfl, hb⟩; have hs := hb.size)
        | (go_at_call 11; (with_reducible refine (HD.out _ hb).mono ?_); rintro e w2 ⟨rfl, hb2⟩; have hb3 := hb.trans (hb2.mono hs)))
      go_ret
      exact ⟨rfl, hb3⟩
  · have d2 : (e1 == 0) = false := by rw [beq_eq_false_iff_ne]; exact z1
    have hvf := HZ.out (.inl z1)
    subst hvf
    clear HM1 HM2
    go_enter Try.func18, Try.ntmps18
    go_wp2_with (go_at_call 11; (with_reducible refine HC.out.mono ?_); rintro e w1 ⟨rfl, hb⟩)
    go_ret
    exact ⟨rfl, hb⟩
end Go.Proofs.Ytflonakoagjmhaa.Zn
