/- Walk of the law TaggedBuilds. -/
import Derived.Test.YtinnmnhaeejfdaaRows
import Derived.Test.YtinnmnhaeejfdaaTgLE
import Derived.Test.YtinnmnhaeejfdaaTgRBl
namespace Go.Proofs.Ytinnmnhaeejfdaa
open Go.RowKit

theorem bld_back : ∀ (es : List El) (p : Int) (k : Nat), bldE es p = 0 → 0 ≤ p → (putE es).length < k → elmF k (putE es) p = (es, 0)
  | [], p, k, _, _, h => by cases k with
    | zero => rfl
    | succ k => rfl
  | e :: t, p, 0, _, _, h => by omega
  | e :: t, p, k + 1, h, hp, hk => by
    simp only [bldE] at h
    by_cases c1 : e.1 < 1 ∨ 255 < e.1
    · rw [if_pos c1] at h; exact absurd h (by decide)
    · rw [if_neg c1] at h
      by_cases c2 : e.1 ≤ p
      · rw [if_pos c2] at h; exact absurd h (by decide)
      · rw [if_neg c2] at h
        by_cases c3 : 255 < (e.2.length : Int)
        · rw [if_pos c3] at h; exact absurd h (by decide)
        · rw [if_neg c3] at h
          simp only [putE, List.length_cons, List.length_append] at hk
          have ih := bld_back t e.1 k h (by omega) (by omega)
          simp only [putE]
          rw [elmF_cons, if_neg (by omega), if_neg c2, if_neg (by rw [List.length_append]; omega), Int.toNat_natCast, List.take_left, List.drop_left, ih]
/-- The bytes of all values. -/
def sumL (es : List El) : Nat := (es.map (·.2.length)).sum
theorem putE_len : ∀ (es : List El), (putE es).length = 2 * es.length + sumL es
  | [] => rfl
  | e :: t => by
    have := putE_len t
    simp only [putE, List.length_cons, List.length_append, sumL, List.map_cons, List.sum_cons] at *
    omega
theorem sumL_cons (e : El) (t : List El) : sumL (e :: t) = e.2.length + sumL t := by simp [sumL]
def lightB (es : List El) : Bool := decide (es.length ≤ 300) && decide (sumL es ≤ 3000)
set_option maxHeartbeats 4000000 in
theorem light_any {A : Option Addr} {n c : Nat} {es : List El} {w : World} (hE : Els w A n es none) (hn : n ≤ 6000000000000) (hm : ∀ e ∈ es, e.2.length ≤ 200000000000000) :
    Calls Try.prog 9 #[.slice A n c] w fun e w' => e = .returned (.bool (lightB es)) ∧ w = w' := by
  have hl := hE.len
  have hni : (n : Int) ≤ 6000000000000 := by omega
  obtain ⟨fin, hfin⟩ : ∃ fin, lightB es = fin := ⟨_, rfl⟩
  rw [hfin]
  unfold lightB at hfin
  rw [hl] at hfin
  have HE := Lib.hid hE; have HL := Lib.hid hl; have HF := Lib.hid hfin; have HM := Lib.hid hm
  clear hE hl hfin hn hm
  go_enter Try.func9, Try.ntmps9
  go_wp2
  go_loopw [3, 4] (fun s i wr => ∃ (k S : Nat), i = .int .i64 (k : Int) ∧ s = .int .i64 (S : Int) ∧ k ≤ n ∧ k ≤ 301 ∧ Hid (S + sumL (es.drop k) = sumL es) ∧ S ≤ 300000000000000 ∧ wr = w) (fun _ i _ => n - (intOf i).toNat)
  case atStart => exact ⟨0, 0, rfl, rfl, by omega, by omega, by show _ = _; simp, by omega, rfl⟩
  case round =>
    obtain ⟨k, S, rfl, rfl, hk, hk3, hS, hS3, rfl⟩ := hrel
    have hSi : (S : Int) ≤ 300000000000000 := by omega
    by_cases hlt : k < n
    · have hlt' : (k : Int) < (n : Int) := by omega
      by_cases h3 : (k : Int) ≤ 300
      · by_cases hs : (S : Int) ≤ 3000
        · obtain ⟨e, he⟩ : ∃ e, es[k]? = some e := ⟨_, List.getElem?_eq_getElem (by have := HL.out; omega)⟩
          obtain ⟨b, off, B, m, d, rfl, hbl, -, h0, h1, hB, -⟩ := HE.out.elem k e he
          have hml := hB.len
          have hmb := HM.out e (List.mem_of_getElem? he)
          have hS' := hS.out
          rw [drop_at' he, sumL_cons] at hS'
          rw [hml] at hS' hmb
          have hmi : (m : Int) ≤ 200000000000000 := by omega
          have HS := Lib.hid hS'
          clear hS' hS hB hml he hmb
          go_wp2
          go_roundw
          case rel => exact ⟨k + 1, S + m, by first | rfl | (simp; omega), by first | rfl | (simp; omega), by omega, by omega, Lib.hid (by have := HS.out; omega), by omega, by first | trivial | rfl⟩
          case measure => simp [intOf]; omega
        · have hr : fin = false := by
            rw [← HF.out]
            have := hS.out
            simp; omega
          have hs' : (3000 : Int) < (S : Int) := by omega
          subst hr
          clear hS HF
          by_cases hn3 : (n : Int) ≤ 300
          · go_wp2
            go_ret
            exact ⟨rfl, rfl⟩
          · go_wp2
            go_ret
            exact ⟨rfl, rfl⟩
      · have hr : fin = false := by
          rw [← HF.out]
          simp; omega
        have h3' : (300 : Int) < (k : Int) := by omega
        have hn3 : (300 : Int) < (n : Int) := by omega
        subst hr
        clear hS HF
        go_wp2
        go_ret
        exact ⟨rfl, rfl⟩
    · obtain rfl : k = n := by omega
      have hS' := hS.out
      rw [List.drop_eq_nil_of_le (by have := HL.out; omega)] at hS'
      replace hS' : S + 0 = sumL es := hS'
      by_cases hn3 : (k : Int) ≤ 300
      · by_cases hs : (S : Int) ≤ 3000
        · have hr : fin = true := by
            rw [← HF.out]
            simp; omega
          subst hr
          clear hS hS' HF
          go_wp2
          go_ret
          exact ⟨rfl, rfl⟩
        · have hr : fin = false := by
            rw [← HF.out]
            simp; omega
          have hs' : (3000 : Int) < (S : Int) := by omega
          subst hr
          clear hS hS' HF
          go_wp2
          go_ret
          exact ⟨rfl, rfl⟩
      · have hr : fin = false := by
          rw [← HF.out]
          simp; omega
        have h3' : (300 : Int) < (k : Int) := by omega
        subst hr
        clear hS hS' HF
        go_wp2
        go_ret
        exact ⟨rfl, rfl⟩
set_option maxRecDepth 100000 in
set_option maxHeartbeats 8000000 in
theorem bldGood {A : Option Addr} {n c : Nat} {es : List El} {W : World} (hE : Els W A n es none) (hlt : lightB es = true) (hn : n ≤ 6000000000000) (hm : ∀ e ∈ es, e.2.length ≤ 200000000000000) :
    Calls Try.prog 3 #[.slice A n c] W fun e w' => e = .returned (.bool true) ∧ Below W.heap.size W w' := by
  have HALV := Lib.hid alive_any
  have hl := hE.len
  have hLI := light_any (c := c) hE hn hm
  rw [hlt] at hLI
  have hpl := putE_len es
  have hbd : es.length ≤ 300 ∧ sumL es ≤ 3000 := by simpa [lightB] using hlt
  obtain ⟨x, hx⟩ : ∃ x, bldE es 0 = x := ⟨_, rfl⟩
  have HE := Lib.hid hE; have HLI := Lib.hid hLI; have HN := Lib.hid hn; have HPL : Hid ((putE es).length ≤ 3600) := Lib.hid (by omega); have HN3 : Hid (n ≤ 300) := Lib.hid (by omega)
  clear hE hl hLI hn hm hpl hbd hlt
  by_cases h0 : x = 0
  · subst h0
    have hbk : elmR (putE es) = (es, 0) := bld_back es 0 _ hx (by omega) (by omega)
    have HX := Lib.hid hx; have HBK := Lib.hid hbk
    clear hx hbk
    go_enter Try.func3, Try.ntmps3
    go_wp2_with (first
      | (go_at_call 9; refine HLI.out.mono ?_; rintro e w0 ⟨rfl, rfl⟩)
      | (go_at_call 11; refine (build_any HE.out HN.out).mono ?_; rintro e w1 ⟨h1, hb1⟩; rw [if_pos HX.out] at h1; obtain ⟨v1, rfl, ho1⟩ := h1; obtain ⟨A1, m1, c1, rfl, hm1, y1⟩ := ho1.bytm; have HM1 := hm1; have HY1 := Lib.hid y1; have HB1 := Lib.hid hb1; clear ho1 hb1 hm1 y1)
      | (go_at_call 12; refine (refBuild_any (HE.out.below HB1.out) HN.out).mono ?_; rintro e w2 ⟨h2, hb2⟩; rw [if_pos HX.out] at h2; obtain ⟨v2, rfl, ho2⟩ := h2; obtain ⟨A2, m2, c2, rfl, hm2, y2⟩ := ho2.bytm; have HY1 := Lib.hid (HY1.out.below hb2); have HB2 := Lib.hid (HB1.out.trans (hb2.mono HB1.out.size)); have cv1 := byt_conv HY1.out; have cv2 := byt_conv y2; obtain ⟨S, hS⟩ : ∃ S, strOfNums (putE es) = S := ⟨_, rfl⟩; rw [hS] at cv1 cv2; clear ho2 hb2 hm2 y2 hS)
      | (go_at_call 13; refine (elements_any HY1.out (by have := HM1.out; have := HPL.out; omega)).mono ?_; rintro e w3 ⟨h3, hb3⟩; rw [HBK.out, if_pos rfl] at h3; obtain ⟨v3, rfl, hf3⟩ := h3; obtain ⟨A3, N, c3, rfl, hN, hE3⟩ := els_n hf3; obtain rfl : N = n := hN.trans HE.out.len; have HE3 := Lib.hid hE3; have HB3 := Lib.hid (HB2.out.trans (hb3.mono HB2.out.size)); clear hf3 hb3 hN hE3)
      | (go_at_call 14; refine (same_yes (by have := HN3.out; omega) HE3.out (HE.out.below HB3.out)).mono ?_; rintro e w4 ⟨rfl, hb4⟩; have HB4 := Lib.hid (HB3.out.trans (hb4.mono HB3.out.size)); clear hb4)
      | (go_at_call 10; refine (HALV.out _).mono ?_; rintro e w9 ⟨rfl, hb9⟩))
    go_ret
    exact ⟨rfl, HB4.out.trans (hb9.mono HB4.out.size)⟩
  · have HX := Lib.hid hx
    have hx0 : (x != 0) = true := by simp [h0]
    have HX0 := Lib.hid h0
    clear hx h0
    have cvn := fun w => byt_conv (byt_nil w)
    go_enter Try.func3, Try.ntmps3
    go_wp2_with (first
      | (go_at_call 9; refine HLI.out.mono ?_; rintro e w0 ⟨rfl, rfl⟩)
      | (go_at_call 11; refine (build_any HE.out HN.out).mono ?_; rintro e w1 ⟨h1, hb1⟩; rw [if_neg (by rw [HX.out]; exact HX0.out), HX.out] at h1; subst h1; have HB1 := Lib.hid hb1; clear hb1)
      | (go_at_call 12; refine (refBuild_any (HE.out.below HB1.out) HN.out).mono ?_; rintro e w2 ⟨h2, hb2⟩; rw [if_neg (by rw [HX.out]; exact HX0.out), HX.out] at h2; subst h2; have HB2 := Lib.hid (HB1.out.trans (hb2.mono HB1.out.size)); clear hb2)
      | (go_at_call 10; refine (HALV.out _).mono ?_; rintro e w9 ⟨rfl, hb9⟩))
    go_ret
    exact ⟨rfl, HB2.out.trans (hb9.mono HB2.out.size)⟩
set_option maxRecDepth 100000 in
set_option maxHeartbeats 4000000 in
theorem walkTaggedBuilds (A : Option Addr) (n c : Nat) (es : List El) (W : World) (hE : Els W A n es none) (hn : n ≤ 6000000000000) (hm : ∀ e ∈ es, (∀ x ∈ e.2, 0 ≤ x ∧ x ≤ 255) ∧ e.2.length ≤ 200000000000000) :
    Calls Try.prog 3 #[.slice A n c] W fun e w' => e = .returned (.bool true) ∧ Below W.heap.size W w' := by
  cases hl : lightB es with
  | true => exact bldGood hE hl hn (fun e he => (hm e he).2)
  | false =>
    have HALV := Lib.hid alive_any
    have hLI := light_any (c := c) hE hn (fun e he => (hm e he).2)
    rw [hl] at hLI
    have HLI := Lib.hid hLI
    clear hE hn hm hl hLI
    go_enter Try.func3, Try.ntmps3
    go_wp2_with (first
      | (go_at_call 9; refine HLI.out.mono ?_; rintro e w0 ⟨rfl, rfl⟩)
      | (go_at_call 10; refine (HALV.out _).mono ?_; rintro e w9 ⟨rfl, hb9⟩))
    go_ret
    exact ⟨rfl, hb9⟩
end Go.Proofs.Ytinnmnhaeejfdaa
