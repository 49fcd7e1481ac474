/- Walk of the law DedupMissing. -/
import Derived.Test.YtpmcmafbfboocaaDdX
namespace Go.Proofs.Ytpmcmafbfboocaa
open Go.RowKit

/-- What is seen of a source, as the law adds it up, and its greatest number. -/
def stN (s : Int) (p : Int × Int) (r : Rg) : Int × Int := if r.1 = s then (p.1 + r.2.2 - r.2.1 + 1, r.2.2) else p
def sumA (s : Int) (l : List Rg) : Int × Int := l.foldl (stN s) (0, 0)
theorem sum_step {s : Int} {l : List Rg} {k : Nat} {y : Rg} {P : Int × Int} (hk : k < l.length) (hp : l.getD k rg0 = y) (hP : sumA s (l.take k) = P) : sumA s (l.take (k + 1)) = stN s P y := by
  have e : l[k] = y := by rw [← hp, List.getD_eq_getElem?_getD, List.getElem?_eq_getElem hk]; rfl
  subst hP
  unfold sumA
  rw [List.take_succ_eq_append_getElem hk, List.foldl_append, e]; rfl
theorem cntL_snoc (l : List Rg) (r : Rg) : cntL (l ++ [r]) = cntL l + (r.2.2 - r.2.1 + 1) := by unfold cntL; rw [List.map_append, List.sum_append]; simp
/-- What is seen and what is missing. -/
structure Inv (s : Int) (l : List Rg) (k : Nat) : Prop where
  a : (glA s (l.take k)).2 = (sumA s (l.take k)).2 + 1
  b : (sumA s (l.take k)).1 + cntL (glA s (l.take k)).1 = (sumA s (l.take k)).2
  c : ∀ j, k ≤ j → j < l.length → (l.getD j rg0).1 = s → (sumA s (l.take k)).2 < (l.getD j rg0).2.1
  d : 0 ≤ (sumA s (l.take k)).1 ∧ (sumA s (l.take k)).1 ≤ (sumA s (l.take k)).2 ∧ (sumA s (l.take k)).2 ≤ 999999999
  e : ∀ r ∈ (glA s (l.take k)).1, 1 ≤ r.2.1 ∧ r.2.1 ≤ r.2.2 ∧ r.2.2 ≤ 999999999
theorem can_pair {l : List Rg} (hl : Can l) {i j : Nat} (hij : i < j) (hj : j < l.length) : apt (l.getD i rg0) (l.getD j rg0) = true := by
  have h := List.pairwise_iff_getElem.1 hl.2 i j (by omega) hj hij
  simpa [List.getD_eq_getElem?_getD, List.getElem?_eq_getElem (show i < l.length by omega), List.getElem?_eq_getElem hj] using h
theorem inv_all {s : Int} {l : List Rg} (hl : Can l) : ∀ k, k ≤ l.length → Inv s l k
  | 0, _ => ⟨rfl, rfl, fun j _ hj _ => by
      obtain ⟨⟨ys, yf, yt⟩, hp⟩ : ∃ p, l.getD j rg0 = p := ⟨_, rfl⟩
      obtain ⟨_, _, h, _, _⟩ := can_get hl hj hp
      rw [hp]; show (0 : Int) < yf; omega, ⟨Int.le_refl _, Int.le_refl _, by show (0 : Int) ≤ 999999999; decide⟩, fun r hr => by cases hr⟩
  | k + 1, hk => by
    obtain ⟨a, b, c, ⟨d1, d2, d3⟩, e⟩ := inv_all (s := s) hl k (by omega)
    obtain ⟨⟨ys, yf, yt⟩, hp⟩ : ∃ p, l.getD k rg0 = p := ⟨_, rfl⟩
    obtain ⟨j1, j2, j3, j4, j5⟩ := can_get hl (by omega) hp
    have hc := c k (Nat.le_refl _) (by omega)
    rw [hp] at hc
    have hgs := gl_step (s := s) (show k < l.length by omega) hp rfl
    have hss := sum_step (s := s) (show k < l.length by omega) hp rfl
    generalize glA s (l.take k) = G at *
    generalize sumA s (l.take k) = S at *
    obtain ⟨out, nx⟩ := G
    obtain ⟨N, last⟩ := S
    simp only at a b c d1 d2 d3 e hc
    have hrest : ∀ j, k + 1 ≤ j → j < l.length → (l.getD j rg0).1 = ys → yt < (l.getD j rg0).2.1 := fun j hj1 hj2 hj3 => by
      have h := can_pair hl (show k < j by omega) hj2
      rw [hp, apt_iff] at h
      have h : ys < (l.getD j rg0).1 ∨ ys = (l.getD j rg0).1 ∧ yt + 1 < (l.getD j rg0).2.1 := h
      omega
    by_cases hy : ys = s
    · have hc := hc hy
      unfold stM at hgs
      unfold stN at hss
      rw [if_pos hy] at hgs hss
      by_cases hx : nx < yf
      · simp only [if_pos hx] at hgs
        refine ⟨by rw [hgs, hss], by rw [hgs, hss]; simp only; rw [cntL_snoc]; show N + yt - yf + 1 + (cntL out + (yf - 1 - nx + 1)) = yt; omega, by rw [hss]; intro j h1 h2 h3; exact hrest j h1 h2 (by rw [hy]; exact h3), by rw [hss]; refine ⟨?_, ?_, ?_⟩ <;> simp only <;> omega, ?_⟩
        rw [hgs]
        intro r hr
        rcases List.mem_append.1 hr with hr | hr
        · exact e r hr
        · obtain rfl : r = (s, nx, yf - 1) := by simpa using hr
          refine ⟨?_, ?_, ?_⟩ <;> simp only <;> omega
      · simp only [if_neg hx] at hgs
        refine ⟨by rw [hgs, hss], by rw [hgs, hss]; simp only; omega, by rw [hss]; intro j h1 h2 h3; exact hrest j h1 h2 (by rw [hy]; exact h3), by rw [hss]; refine ⟨?_, ?_, ?_⟩ <;> simp only <;> omega, ?_⟩
        rw [hgs]
        exact e
    · unfold stM at hgs
      unfold stN at hss
      rw [if_neg hy] at hgs hss
      refine ⟨by rw [hgs, hss]; exact a, by rw [hgs, hss]; exact b, by rw [hss]; intro j h1 h2 h3; exact c j (by omega) h2 h3, by rw [hss]; exact ⟨d1, d2, d3⟩, by rw [hgs]; exact e⟩
theorem gaps_bound {l : List Rg} (hl : ∀ r ∈ l, 1 ≤ r.2.1 ∧ r.2.1 ≤ r.2.2 ∧ r.2.2 ≤ 999999999) : ∀ k, k ≤ l.length → (k : Int) ≤ cntL (l.take k) ∧ cntL (l.take k) ≤ k * 1000000000
  | 0, _ => by simp [cntL]
  | k + 1, hk => by
    obtain ⟨h1, h2⟩ := gaps_bound hl k (by omega)
    obtain ⟨⟨s, f, t⟩, hp⟩ : ∃ p, l.getD k rg0 = p := ⟨_, rfl⟩
    have hm : (s, f, t) ∈ l := by rw [← hp, List.getD_eq_getElem?_getD, List.getElem?_eq_getElem (show k < l.length by omega)]; exact List.getElem_mem _
    obtain ⟨a, b, c⟩ := hl _ hm
    simp only at a b c
    rw [cnt_step (by omega) hp]
    omega
theorem gap_get {l : List Rg} (hl : ∀ r ∈ l, 1 ≤ r.2.1 ∧ r.2.1 ≤ r.2.2 ∧ r.2.2 ≤ 999999999) {k : Nat} {s f t : Int} (hk : k < l.length) (hp : l.getD k rg0 = (s, f, t)) : 1 ≤ f ∧ f ≤ t ∧ t ≤ 999999999 := by
  have hm : (s, f, t) ∈ l := by rw [← hp, List.getD_eq_getElem?_getD, List.getElem?_eq_getElem hk]; exact List.getElem_mem _
  exact hl _ hm
set_option maxRecDepth 100000 in
set_option maxHeartbeats 16000000 in
theorem walkDedupMissing (A : Option Addr) (n c : Nat) (l : List Rg) (s : Int) (W : World) (hA : RgR W A l) (hn : l.length = n) (hc : n ≤ c) (hm : c ≤ maxLen) (h0 : A = none → n = 0) :
    Calls Try.prog 8 #[.slice A n c, .int .i64 s] W fun e w' => e = .returned (.bool true) ∧ Below W.heap.size W w' := by
  have HAL := Lib.hid alive_any
  obtain ⟨v, hv⟩ : ∃ v, (decide (n ≤ 100) && canB l) = v := ⟨_, rfl⟩
  have HLT := Lib.hid (light_any A n c l W hA hn hc hm v hv)
  cases v
  · clear hA hn h0 hv
    go_enter Try.func8, Try.ntmps8
    go_wp2_with (first
      | (go_at_call 13; (with_reducible refine HLT.out.mono ?_); rintro e w1 ⟨rfl, hb1⟩; have HB1 := Lib.hid hb1; clear hb1)
      | (go_at_call 10; (with_reducible refine (HAL.out _).mono ?_); rintro e w3 ⟨rfl, hb3⟩; have HB3 := Lib.hid (HB1.out.trans (hb3.mono HB1.out.size)); clear hb3))
    go_ret
    exact ⟨rfl, HB3.out⟩
  · rw [Bool.and_eq_true, decide_eq_true_eq] at hv
    have hl := canB_iff.1 hv.2
    have hn100 : n ≤ 100 := hv.1
    have h6 : n ≤ 1000000 := by omega
    obtain ⟨m, hLm⟩ : ∃ m, (glA s l).1.length = m := ⟨_, rfl⟩
    have hm6 : m ≤ 100 := by
      have := (gl_bound (s := s) hl l.length (Nat.le_refl _)).1
      rw [List.take_length, hLm] at this; omega
    have hI := inv_all (s := s) hl
    have hIN := hI l.length (Nat.le_refl _)
    have hgl := hIN.e
    have hsum := hIN.b
    rw [List.take_length] at hgl hsum
    have HMI := Lib.hid (fun w (h : Below W.heap.size W w) => missing_got A n c l s w hl h6 (hA.below h) hn hc hm rfl hLm)
    have HRM := Lib.hid (fun w (h : Below W.heap.size W w) => refMissing_got A n c l s w hl h6 (hA.below h) hn hc hm rfl hLm)
    obtain ⟨L, hL⟩ : ∃ L, (glA s l).1 = L := ⟨_, rfl⟩
    rw [hL] at hLm hgl hsum HMI HRM
    have HSM := Lib.hid (fun A B c d w (h1 : RgR w A L) (h2 : RgR w B L) => same_eq A B m c d L w h1 h2 hLm (by omega))
    have HLM := Lib.hid hLm; have HGL := Lib.hid hgl; have HSUM := Lib.hid hsum; have HI := Lib.hid hI; have HA := Lib.hid hA; have HN := Lib.hid hn
    have HCG := Lib.hid (fun k s f t (h : k < l.length) (e : l.getD k rg0 = (s, f, t)) => can_get hl h e)
    have HGB := Lib.hid (gaps_bound hgl)
    clear hA hn h0 hv hl hLm hgl hsum hI hIN hL
    go_enter Try.func8, Try.ntmps8
    go_wp2_with (first
      | (go_at_call 13; (with_reducible refine HLT.out.mono ?_); rintro e w1 ⟨rfl, hb1⟩; have HB1 := Lib.hid hb1; clear hb1)
      | (go_at_call 25; (with_reducible refine (HMI.out _ HB1.out).mono ?_); rintro e w2 ⟨A2, c2, rfl, hc2, hm2, hR2, hz2, hb2⟩; have HR2 := Lib.hid hR2; have HB2 := Lib.hid (HB1.out.trans (hb2.mono HB1.out.size)); clear hR2 hz2 hb2)
      | (go_at_call 26; (with_reducible refine (HRM.out _ HB2.out).mono ?_); rintro e w3 ⟨A3, c3, rfl, hc3, hm3, hR3, hz3, hb3⟩; have HR3 := Lib.hid hR3; have HR23 := Lib.hid (HR2.out.below hb3); have HB3 := Lib.hid (HB2.out.trans (hb3.mono HB2.out.size)); clear hc3 hm3 hR3 hz3 hb3)
      | (go_at_call 20; (with_reducible refine (HSM.out A2 A3 c2 c3 _ HR23.out HR3.out).mono ?_); rintro e w4 ⟨rfl, hb4⟩; have HR4 := Lib.hid (HR23.out.below hb4); have HB4 := Lib.hid (HB3.out.trans (hb4.mono HB3.out.size)); clear hb4))
    go_loopw [6, 7, 8] (fun nv lv iv wr => ∃ (k : Nat) (N La : Int), iv = .int .i64 k ∧ nv = .int .i64 N ∧ lv = .int .i64 La ∧ k ≤ n ∧ Hid (sumA s (l.take k) = (N, La)) ∧ Below w4.heap.size w4 wr) (fun _ _ iv _ => n - (intOf iv).toNat)
    case atStart => exact ⟨0, 0, 0, rfl, rfl, rfl, by omega, Lib.hid rfl, Below.refl _ _⟩
    case round =>
      obtain ⟨k, N, La, rfl, rfl, rfl, hk, HST, hb⟩ := hrel
      have hb4 := HB4.out.trans (hb.mono HB4.out.size)
      obtain ⟨d1, d2, d3⟩ := (HI.out k (by rw [HN.out]; exact hk)).d
      rw [HST.out] at d1 d2 d3
      simp only at d1 d2 d3
      by_cases hlt : k < n
      · have hkl : k < l.length := by rw [HN.out]; exact hlt
        obtain ⟨bk, off, rfl, hbl, g0, g1, g2⟩ := HA.out k hkl
        have e0 := (hb4.cell (p := ⟨bk, off + k * 3, none⟩) hbl).trans g0
        have e1 := (hb4.cell (p := ⟨bk, off + k * 3 + 1, none⟩) hbl).trans g1
        have e2 := (hb4.cell (p := ⟨bk, off + k * 3 + 2, none⟩) hbl).trans g2
        have hlt' : (k : Int) < (n : Int) := by omega
        have hk0 : (0 : Int) ≤ (k : Int) := by omega
        obtain ⟨⟨ys, yf, yt⟩, hp⟩ : ∃ z, l.getD k rg0 = z := ⟨_, rfl⟩
        rw [hp] at e0 e1 e2
        simp only at e0 e1 e2
        obtain ⟨j1, j2, j3, j4, j5⟩ := HCG.out k _ _ _ hkl hp
        have HSS := Lib.hid (sum_step (s := s) hkl hp HST.out)
        clear g0 g1 g2 hp hkl HST hb4
        by_cases x1 : ys = s
        · have q1 : (ys == s) = true := by simp [x1]
          have HS2 : Hid (sumA s (l.take (k + 1)) = (N + yt - yf + 1, yt)) := Lib.hid (HSS.out.trans (by unfold stN; rw [if_pos x1]))
          have hw1 : IntKind.i64.wrap (N + yt) = N + yt := IntWalk.i64_in _ (by omega)
          have hw2 : IntKind.i64.wrap (N + yt - yf) = N + yt - yf := IntWalk.i64_in _ (by omega)
          have hw3 : IntKind.i64.wrap (N + yt - yf + 1) = N + yt - yf + 1 := IntWalk.i64_in _ (by omega)
          clear x1 HSS
          go_wp2_with fail
          go_quiet (fail)
          clear hw1 hw2 hw3
          go_wp2_with fail
          go_roundw
          case rel => exact ⟨k + 1, N + yt - yf + 1, yt, by go_num, rfl, rfl, by omega, HS2, below_drewN hb _⟩
          case measure => simp [intOf]; omega
        · have q1 : (ys == s) = false := by simp [x1]
          have HS2 : Hid (sumA s (l.take (k + 1)) = (N, La)) := Lib.hid (HSS.out.trans (by unfold stN; rw [if_neg x1]))
          clear x1 HSS
          go_wp2_with fail
          go_roundw
          case rel => exact ⟨k + 1, N, La, by go_num, rfl, rfl, by omega, HS2, hb⟩
          case measure => simp [intOf]; omega
      · obtain rfl : k = n := by omega
        have HT : Hid (N + cntL L = La) := Lib.hid (by
          have h1 := HST.out
          rw [← HN.out, List.take_length] at h1
          have h2 := HSUM.out
          rw [h1] at h2; exact h2)
        have HB5 := Lib.hid hb
        clear hb4 HST hb
        go_wp2_with fail
        go_loopw [6, 9] (fun nv iv wr => ∃ (i : Nat), iv = .int .i64 i ∧ nv = .int .i64 (N + cntL (L.take i)) ∧ i ≤ m ∧ Below w4.heap.size w4 wr) (fun _ iv _ => m - (intOf iv).toNat)
        case atStart => exact ⟨0, rfl, by simp [cntL], by omega, HB5.out⟩
        case round =>
          obtain ⟨i, rfl, rfl, hi, hb⟩ := hrel
          obtain ⟨b1, b2⟩ := HGB.out i (by rw [HLM.out]; exact hi)
          by_cases hlt2 : i < m
          · have hkl : i < L.length := by rw [HLM.out]; exact hlt2
            obtain ⟨bk, off, rfl, hbl, g0, g1, g2⟩ := HR4.out i hkl
            have e0 := (hb.cell (p := ⟨bk, off + i * 3, none⟩) hbl).trans g0
            have e1 := (hb.cell (p := ⟨bk, off + i * 3 + 1, none⟩) hbl).trans g1
            have e2 := (hb.cell (p := ⟨bk, off + i * 3 + 2, none⟩) hbl).trans g2
            have hlt' : (i : Int) < (m : Int) := by omega
            have hk0 : (0 : Int) ≤ (i : Int) := by omega
            obtain ⟨⟨ys, yf, yt⟩, hp⟩ : ∃ z, L.getD i rg0 = z := ⟨_, rfl⟩
            rw [hp] at e0 e1 e2
            simp only at e0 e1 e2
            obtain ⟨j1, j2, j3⟩ := gap_get HGL.out hkl hp
            have HSS := Lib.hid (cnt_step hkl hp)
            obtain ⟨T, hT⟩ : ∃ T, cntL (L.take i) = T := ⟨_, rfl⟩
            rw [hT] at b1 b2 HSS ⊢
            have hT2 : T ≤ 1000000000000 := by omega
            have hw1 : IntKind.i64.wrap (N + T + yt) = N + T + yt := IntWalk.i64_in _ (by omega)
            have hw2 : IntKind.i64.wrap (N + T + yt - yf) = N + T + yt - yf := IntWalk.i64_in _ (by omega)
            have hw3 : IntKind.i64.wrap (N + T + yt - yf + 1) = N + T + yt - yf + 1 := IntWalk.i64_in _ (by omega)
            clear g0 g1 g2 hp hkl hT b2
            go_wp2_with fail
            go_quiet (fail)
            clear hw1 hw2 hw3
            go_wp2_with fail
            go_roundw
            case rel => exact ⟨i + 1, by go_num, by rw [HSS.out]; exact congrArg _ (by omega), by omega, below_drewN hb _⟩
            case measure => simp [intOf]; omega
          · obtain rfl : i = m := by omega
            have HT2 : Hid (N + cntL (L.take i) = La) := Lib.hid (by rw [← HLM.out, List.take_length]; exact HT.out)
            obtain ⟨Z, hZ⟩ : ∃ Z, N + cntL (L.take i) = Z := ⟨_, rfl⟩
            rw [hZ] at HT2 ⊢
            obtain rfl : Z = La := HT2.out
            have HB6 := Lib.hid (HB4.out.trans (hb.mono HB4.out.size))
            clear hZ HT2 b1 b2
            go_wp2_with (go_at_call 10; (with_reducible refine (HAL.out _).mono ?_); rintro e w9 ⟨rfl, hb9⟩)
            go_ret
            exact ⟨by simp, HB6.out.trans (hb9.mono HB6.out.size)⟩
end Go.Proofs.Ytpmcmafbfboocaa
