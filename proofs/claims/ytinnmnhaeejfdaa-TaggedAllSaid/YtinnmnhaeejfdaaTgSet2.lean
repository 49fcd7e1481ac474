/- Walks: setting the flags of a record, and any field. -/
import Derived.Test.YtinnmnhaeejfdaaTgSet
namespace Go.Proofs.Ytinnmnhaeejfdaa
open Go.RowKit

theorem grown_set (w : World) (g i : Nat) (v : Value) : w.grownBy (w.setCell ⟨g, i, none⟩ v) (some g) :=
  ⟨rfl, rfl, rfl, by simp [World.setCell], fun k _ hne => by
    have : g ≠ k := fun e => hne (by rw [e])
    simp [World.setCell, Array.getElem?_modify, this]⟩
theorem Below.grows {w w' : World} (hb : Below w.heap.size w w') (row : Option Nat) : w.grownBy w' row :=
  ⟨hb.os, hb.tape, hb.output, hb.size, fun k hk _ => hb.block k hk⟩
set_option maxHeartbeats 4000000 in
theorem setFlg_any {A : Option Addr} {n c : Nat} {l : List Int} {w : World} {g : Nat} {r : Rc} (hx : RcB w g r) (hA : Byt w A n c l) (hn : n ≤ 100000) (hap : ∀ x, A = some x → l ≠ [] → x.block ≠ g) :
    Calls Try.prog 50 #[.pointer (some ⟨g, 0, none⟩), .slice A n c] w fun e w' => if l.length = 1 ∧ 1 ≤ l.headD 0 ∧ l.headD 0 ≤ 3 then e = .returned (.bool true) ∧ w' = (w.setCell ⟨g, 9, none⟩ (.bool (decide (l.headD 0 % 2 = 1)))).setCell ⟨g, 11, none⟩ (.bool (decide (2 ≤ l.headD 0))) else e = .returned (.bool false) ∧ w' = w := by
  have hl := hA.len
  have hni : (n : Int) ≤ 100000 := by omega
  by_cases h1 : n = 1
  · subst h1
    obtain ⟨b, off, x, rfl, hxx, hc, hb⟩ := hA.at (k := 0) (by omega)
    rw [Nat.add_zero] at hc
    have hne : b ≠ g := hap _ rfl (by intro e; rw [e] at hl; simp at hl)
    have hd := head_at hxx
    have hxr := hA.ran x (List.mem_of_getElem? hxx)
    rw [hd]
    clear hA hap hxx hd
    by_cases c1 : x < 1
    · have hcn : ¬ (l.length = 1 ∧ 1 ≤ x ∧ x ≤ 3) := by omega
      simp only [if_neg hcn]
      clear hcn
      clear hx
      go_enter Try.func50, Try.ntmps50
      go_wp2
      go_ret
      exact ⟨rfl, rfl⟩
    · by_cases c3 : 3 < x
      · have hcn : ¬ (l.length = 1 ∧ 1 ≤ x ∧ x ≤ 3) := by omega
        simp only [if_neg hcn]
        clear hcn hx
        have c1' : 1 ≤ x := by omega
        go_enter Try.func50, Try.ntmps50
        go_wp2
        go_ret
        exact ⟨rfl, rfl⟩
      · have hcp : l.length = 1 ∧ 1 ≤ x ∧ x ≤ 3 := ⟨hl, by omega, by omega⟩
        simp only [if_pos hcp]
        clear hcp
        obtain ⟨-, -, -, -, -, -, -, -, -, k9, -, k11⟩ := hx.cells
        have f9 := hx.fr 9
        have f11 := hx.fr 11
        have hcs : x = 1 ∨ x = 2 ∨ x = 3 := by omega
        clear hx hxr c1 c3
        rcases hcs with rfl | rfl | rfl
        all_goals
          go_enter Try.func50, Try.ntmps50
          go_wp2
          go_ret
          exact ⟨rfl, rfl⟩
  · have hcn : ¬ (l.length = 1 ∧ 1 ≤ l.headD 0 ∧ l.headD 0 ≤ 3) := by omega
    simp only [if_neg hcn]
    clear hcn
    have h1b : ((n : Int) != 1) = true := by simp; omega
    clear hA hx hap
    go_enter Try.func50, Try.ntmps50
    go_wp2
    go_ret
    exact ⟨rfl, rfl⟩
/-- What setting a field gives. -/
def SetP (r : Rc) (t : Int) (l : List Int) (g : Nat) (w : World) (e : Ending) (w' : World) : Prop :=
  ∃ (ok : Bool) (r' : Rc), e = .returned (.bool ok) ∧ setM r t l = (if ok then some r' else none) ∧ RcB w' g r' ∧ w.grownBy w' (some g)
set_option maxRecDepth 100000 in
set_option maxHeartbeats 16000000 in
theorem set_any {A : Option Addr} {n c : Nat} {l : List Int} {w : World} {g : Nat} {r : Rc} {t : Int} (hx : RcB w g r) (hA : Byt w A n c l) (hn : n ≤ 100000) (hap : ∀ x, A = some x → l ≠ [] → x.block ≠ g) :
    Calls Try.prog 45 #[.pointer (some ⟨g, 0, none⟩), .int .i64 t, .slice A n c] w (SetP r t l g w) := by
  obtain ⟨k0, k1, k2, k3, k4, k5, k6, k7, k8, k9, k10, k11⟩ := hx.cells
  have hg := heap_lt hx
  have HX := Lib.hid hx; have HA := Lib.hid hA; have HN := Lib.hid hn; have HAP := Lib.hid hap
  clear hx hA hn hap
  by_cases t1 : t = 1
  · subst t1
    by_cases hok : numOk l = true
    · have h := setNum_any HA.out HN.out k2 (HX.out.fr 2)
      simp only [if_pos hok] at h
      have HS := Lib.hid h; have HK := Lib.hid hok
      clear h hok
      go_enter Try.func45, Try.ntmps45
      go_wp2_with (go_at_call 48; refine HS.out.mono ?_; rintro e w1 ⟨rfl, rfl⟩)
      go_ret
      exact ⟨true, { r with s2 := numD l }, rfl, by simp [setM, HK.out], HX.out.set2 _, grown_set _ _ _ _⟩
    · have h := setNum_any HA.out HN.out k2 (HX.out.fr 2)
      simp only [if_neg hok] at h
      have HS := Lib.hid h; have HK := Lib.hid hok
      clear h hok
      go_enter Try.func45, Try.ntmps45
      go_wp2_with (go_at_call 48; refine HS.out.mono ?_; rintro e w1 ⟨rfl, rfl⟩)
      go_ret
      exact ⟨false, r, rfl, by simp [setM, HK.out], HX.out, World.grownBy.refl _ _⟩
  by_cases t2 : t = 2
  · subst t2
    by_cases hok : numOk l = true
    · have h := setNum_any HA.out HN.out k0 (HX.out.fr 0)
      simp only [if_pos hok] at h
      have HS := Lib.hid h; have HK := Lib.hid hok
      clear h hok
      go_enter Try.func45, Try.ntmps45
      go_wp2_with (go_at_call 48; refine HS.out.mono ?_; rintro e w1 ⟨rfl, rfl⟩)
      go_ret
      exact ⟨true, { r with s0 := numD l }, rfl, by simp [setM, HK.out], HX.out.set0 _, grown_set _ _ _ _⟩
    · have h := setNum_any HA.out HN.out k0 (HX.out.fr 0)
      simp only [if_neg hok] at h
      have HS := Lib.hid h; have HK := Lib.hid hok
      clear h hok
      go_enter Try.func45, Try.ntmps45
      go_wp2_with (go_at_call 48; refine HS.out.mono ?_; rintro e w1 ⟨rfl, rfl⟩)
      go_ret
      exact ⟨false, r, rfl, by simp [setM, HK.out], HX.out, World.grownBy.refl _ _⟩
  by_cases t3 : t = 3
  · subst t3
    by_cases hok : numOk l = true
    · have h := setNum_any HA.out HN.out k1 (HX.out.fr 1)
      simp only [if_pos hok] at h
      have HS := Lib.hid h; have HK := Lib.hid hok
      clear h hok
      go_enter Try.func45, Try.ntmps45
      go_wp2_with (go_at_call 48; refine HS.out.mono ?_; rintro e w1 ⟨rfl, rfl⟩)
      go_ret
      exact ⟨true, { r with s1 := numD l }, rfl, by simp [setM, HK.out], HX.out.set1 _, grown_set _ _ _ _⟩
    · have h := setNum_any HA.out HN.out k1 (HX.out.fr 1)
      simp only [if_neg hok] at h
      have HS := Lib.hid h; have HK := Lib.hid hok
      clear h hok
      go_enter Try.func45, Try.ntmps45
      go_wp2_with (go_at_call 48; refine HS.out.mono ?_; rintro e w1 ⟨rfl, rfl⟩)
      go_ret
      exact ⟨false, r, rfl, by simp [setM, HK.out], HX.out, World.grownBy.refl _ _⟩
  by_cases t4 : t = 4
  · subst t4
    have h := setDig_any HA.out k3 (HX.out.fr 3) hg
    by_cases hu : unpE l = 0
    · rw [decide_eq_true hu] at h
      have HS := Lib.hid h; have HK := Lib.hid hu
      clear h hu
      go_enter Try.func45, Try.ntmps45
      go_wp2_with (go_at_call 49; refine HS.out.mono ?_; rintro e w2 ⟨rfl, w1, hb1, rfl⟩; have HB1 := Lib.hid hb1; clear hb1)
      go_ret
      exact ⟨true, { r with sa := S (unpL l) }, rfl, by simp [setM, HK.out], (HX.out.below HB1.out hg).set3 _, (Below.grows HB1.out _).trans (grown_set _ _ _ _)⟩
    · rw [decide_eq_false hu] at h
      have HS := Lib.hid h; have HK := Lib.hid hu
      clear h hu
      go_enter Try.func45, Try.ntmps45
      go_wp2_with (go_at_call 49; refine HS.out.mono ?_; rintro e w2 ⟨rfl, w1, hb1, rfl⟩; have HB1 := Lib.hid hb1; clear hb1)
      go_ret
      exact ⟨false, { r with sa := S (unpL l) }, rfl, by simp [setM, HK.out], (HX.out.below HB1.out hg).set3 _, (Below.grows HB1.out _).trans (grown_set _ _ _ _)⟩
  by_cases t5 : t = 5
  · subst t5
    have h := setDig_any HA.out k4 (HX.out.fr 4) hg
    by_cases hu : unpE l = 0
    · rw [decide_eq_true hu] at h
      have HS := Lib.hid h; have HK := Lib.hid hu
      clear h hu
      go_enter Try.func45, Try.ntmps45
      go_wp2_with (go_at_call 49; refine HS.out.mono ?_; rintro e w2 ⟨rfl, w1, hb1, rfl⟩; have HB1 := Lib.hid hb1; clear hb1)
      go_ret
      exact ⟨true, { r with sb := S (unpL l) }, rfl, by simp [setM, HK.out], (HX.out.below HB1.out hg).set4 _, (Below.grows HB1.out _).trans (grown_set _ _ _ _)⟩
    · rw [decide_eq_false hu] at h
      have HS := Lib.hid h; have HK := Lib.hid hu
      clear h hu
      go_enter Try.func45, Try.ntmps45
      go_wp2_with (go_at_call 49; refine HS.out.mono ?_; rintro e w2 ⟨rfl, w1, hb1, rfl⟩; have HB1 := Lib.hid hb1; clear hb1)
      go_ret
      exact ⟨false, { r with sb := S (unpL l) }, rfl, by simp [setM, HK.out], (HX.out.below HB1.out hg).set4 _, (Below.grows HB1.out _).trans (grown_set _ _ _ _)⟩
  by_cases t6 : t = 6
  · subst t6
    by_cases hok : numOk l = true
    · have h := setNum_any HA.out HN.out k5 (HX.out.fr 5)
      simp only [if_pos hok] at h
      have HS := Lib.hid h; have HK := Lib.hid hok
      clear h hok
      go_enter Try.func45, Try.ntmps45
      go_wp2_with (go_at_call 48; refine HS.out.mono ?_; rintro e w1 ⟨rfl, rfl⟩)
      go_ret
      exact ⟨true, { r with s5 := numD l }, rfl, by simp [setM, HK.out], HX.out.set5 _, grown_set _ _ _ _⟩
    · have h := setNum_any HA.out HN.out k5 (HX.out.fr 5)
      simp only [if_neg hok] at h
      have HS := Lib.hid h; have HK := Lib.hid hok
      clear h hok
      go_enter Try.func45, Try.ntmps45
      go_wp2_with (go_at_call 48; refine HS.out.mono ?_; rintro e w1 ⟨rfl, rfl⟩)
      go_ret
      exact ⟨false, r, rfl, by simp [setM, HK.out], HX.out, World.grownBy.refl _ _⟩
  by_cases t7 : t = 7
  · subst t7
    by_cases hok : numOk l = true
    · have h := setNum_any HA.out HN.out k6 (HX.out.fr 6)
      simp only [if_pos hok] at h
      have HS := Lib.hid h; have HK := Lib.hid hok
      clear h hok
      go_enter Try.func45, Try.ntmps45
      go_wp2_with (go_at_call 48; refine HS.out.mono ?_; rintro e w1 ⟨rfl, rfl⟩)
      go_ret
      exact ⟨true, { r with s6 := numD l }, rfl, by simp [setM, HK.out], HX.out.set6 _, grown_set _ _ _ _⟩
    · have h := setNum_any HA.out HN.out k6 (HX.out.fr 6)
      simp only [if_neg hok] at h
      have HS := Lib.hid h; have HK := Lib.hid hok
      clear h hok
      go_enter Try.func45, Try.ntmps45
      go_wp2_with (go_at_call 48; refine HS.out.mono ?_; rintro e w1 ⟨rfl, rfl⟩)
      go_ret
      exact ⟨false, r, rfl, by simp [setM, HK.out], HX.out, World.grownBy.refl _ _⟩
  by_cases t8 : t = 8
  · subst t8
    by_cases hok : numOk l = true
    · have h := setNum_any HA.out HN.out k7 (HX.out.fr 7)
      simp only [if_pos hok] at h
      have HS := Lib.hid h; have HK := Lib.hid hok
      clear h hok
      go_enter Try.func45, Try.ntmps45
      go_wp2_with (go_at_call 48; refine HS.out.mono ?_; rintro e w1 ⟨rfl, rfl⟩)
      go_ret
      exact ⟨true, { r with s7 := numD l }, rfl, by simp [setM, HK.out], HX.out.set7 _, grown_set _ _ _ _⟩
    · have h := setNum_any HA.out HN.out k7 (HX.out.fr 7)
      simp only [if_neg hok] at h
      have HS := Lib.hid h; have HK := Lib.hid hok
      clear h hok
      go_enter Try.func45, Try.ntmps45
      go_wp2_with (go_at_call 48; refine HS.out.mono ?_; rintro e w1 ⟨rfl, rfl⟩)
      go_ret
      exact ⟨false, r, rfl, by simp [setM, HK.out], HX.out, World.grownBy.refl _ _⟩
  by_cases t9 : t = 9
  · subst t9
    by_cases hok : numOk l = true
    · have h := setNum_any HA.out HN.out k8 (HX.out.fr 8)
      simp only [if_pos hok] at h
      have HS := Lib.hid h; have HK := Lib.hid hok
      clear h hok
      go_enter Try.func45, Try.ntmps45
      go_wp2_with (go_at_call 48; refine HS.out.mono ?_; rintro e w1 ⟨rfl, rfl⟩)
      go_ret
      exact ⟨true, { r with s8 := numD l }, rfl, by simp [setM, HK.out], HX.out.set8 _, grown_set _ _ _ _⟩
    · have h := setNum_any HA.out HN.out k8 (HX.out.fr 8)
      simp only [if_neg hok] at h
      have HS := Lib.hid h; have HK := Lib.hid hok
      clear h hok
      go_enter Try.func45, Try.ntmps45
      go_wp2_with (go_at_call 48; refine HS.out.mono ?_; rintro e w1 ⟨rfl, rfl⟩)
      go_ret
      exact ⟨false, r, rfl, by simp [setM, HK.out], HX.out, World.grownBy.refl _ _⟩
  by_cases t10 : t = 10
  · subst t10
    by_cases hok : numOk l = true
    · have h := setNum_any HA.out HN.out k10 (HX.out.fr 10)
      simp only [if_pos hok] at h
      have HS := Lib.hid h; have HK := Lib.hid hok
      clear h hok
      go_enter Try.func45, Try.ntmps45
      go_wp2_with (go_at_call 48; refine HS.out.mono ?_; rintro e w1 ⟨rfl, rfl⟩)
      go_ret
      exact ⟨true, { r with s10 := numD l }, rfl, by simp [setM, HK.out], HX.out.set10 _, grown_set _ _ _ _⟩
    · have h := setNum_any HA.out HN.out k10 (HX.out.fr 10)
      simp only [if_neg hok] at h
      have HS := Lib.hid h; have HK := Lib.hid hok
      clear h hok
      go_enter Try.func45, Try.ntmps45
      go_wp2_with (go_at_call 48; refine HS.out.mono ?_; rintro e w1 ⟨rfl, rfl⟩)
      go_ret
      exact ⟨false, r, rfl, by simp [setM, HK.out], HX.out, World.grownBy.refl _ _⟩
  by_cases t11 : t = 11
  · subst t11
    have h := setFlg_any HX.out HA.out HN.out HAP.out
    obtain ⟨y, hy⟩ : ∃ y, l.headD 0 = y := ⟨_, rfl⟩
    rw [hy] at h
    have HY := Lib.hid hy
    clear hy
    by_cases hu : l.length = 1 ∧ 1 ≤ y ∧ y ≤ 3
    · simp only [if_pos hu] at h
      have HS := Lib.hid h; have HK := Lib.hid hu
      clear h hu
      go_enter Try.func45, Try.ntmps45
      go_wp2_with (go_at_call 50; refine HS.out.mono ?_; rintro e w1 ⟨rfl, rfl⟩)
      go_ret
      exact ⟨true, { r with b9 := decide (y % 2 = 1), b11 := decide (2 ≤ y) }, rfl, by have hk := HK.out; rw [← HY.out] at hk; unfold setM; rw [if_neg (by decide), if_neg (by decide), if_pos rfl, if_pos hk, HY.out]; rfl, (HX.out.set9 (decide (y % 2 = 1))).set11 (decide (2 ≤ y)), (grown_set _ _ _ _).trans (grown_set _ _ _ _)⟩
    · simp only [if_neg hu] at h
      have HS := Lib.hid h; have HK := Lib.hid hu
      clear h hu
      go_enter Try.func45, Try.ntmps45
      go_wp2_with (go_at_call 50; refine HS.out.mono ?_; rintro e w1 ⟨rfl, rfl⟩)
      go_ret
      exact ⟨false, r, rfl, by have hk := HK.out; rw [← HY.out] at hk; unfold setM; rw [if_neg (by decide), if_neg (by decide), if_pos rfl, if_neg hk]; rfl, HX.out, World.grownBy.refl _ _⟩
  have e1 : (t == 1) = false := by simp [t1]
  have e2 : (t == 2) = false := by simp [t2]
  have e3 : (t == 3) = false := by simp [t3]
  have e4 : (t == 4) = false := by simp [t4]
  have e5 : (t == 5) = false := by simp [t5]
  have e6 : (t == 6) = false := by simp [t6]
  have e7 : (t == 7) = false := by simp [t7]
  have e8 : (t == 8) = false := by simp [t8]
  have e9 : (t == 9) = false := by simp [t9]
  have e10 : (t == 10) = false := by simp [t10]
  have e11 : (t == 11) = false := by simp [t11]
  have hno : setM r t l = none := by simp [setM, t1, t2, t3, t4, t5, t6, t7, t8, t9, t10, t11]
  have HNO := Lib.hid hno
  clear hno
  go_enter Try.func45, Try.ntmps45
  go_wp2
  go_ret
  exact ⟨false, r, rfl, HNO.out, HX.out, World.grownBy.refl _ _⟩
end Go.Proofs.Ytinnmnhaeejfdaa
