/- Walk: two sorted parts of a row are merged. -/
import Derived.Test.YtopngdjhnljmfaaDoorStW2
import Derived.Deep.Cut
namespace Go.Proofs.YtopngdjhnljmfaaDoor.St
open Go.RowKit

theorem mid_cases (a m b mid : Nat) (h : (a + b) / 2 = mid) (h1 : a + 2 ≤ m) (h2 : m + 2 ≤ b) : ∃ s0 r0 : Nat, a ≤ s0 ∧ s0 ≤ r0 ∧ r0 ≤ mid ∧ r0 ≤ m ∧ mid + m ≤ b + s0 ∧ (s0 = a ∨ s0 + b = mid + m) ∧ (r0 = m ∨ r0 = mid) ∧
    ((mid < m ∧ s0 + b = mid + m ∧ r0 = mid) ∨ (¬ mid < m ∧ s0 = a ∧ r0 = m)) := by
  by_cases hm : mid < m
  · exact ⟨mid + m - b, mid, by omega, by omega, by omega, by omega, by omega, .inr (by omega), .inr rfl, .inl ⟨hm, by omega, rfl⟩⟩
  · exact ⟨a, m, by omega, by omega, by omega, by omega, by omega, .inl rfl, .inl rfl, .inr ⟨hm, rfl, rfl⟩⟩
set_option maxRecDepth 100000 in
set_option maxHeartbeats 16000000 in
theorem sym_any (F : Nat) : ∀ (g gb n N cap a m b : Nat) (r : Int → Int) (P A B S : List Int) (w0 W : World), A.length + B.length ≤ F → 0 < A.length → 0 < B.length → CloOK w0 g gb n r → SR w0 g (P ++ A ++ B ++ S) W → P.length = a → a + A.length = m → m + B.length = b → b + S.length = N → N ≤ 1000000 →
    Srt r A → Srt r B → (∀ x ∈ A, ∀ y ∈ B, x < y) → (∀ x ∈ A ++ B, 0 ≤ x ∧ x < n) →
    Calls Tryd.prog 43 #[.slice (some ⟨g, 0, none⟩) N cap, .int .i64 (a : Int), .int .i64 (m : Int), .int .i64 (b : Int), fnv gb] W (SymOut r w0 g P (A ++ B) S) := by
  induction F with
  | zero => intro g gb n N cap a m b r P A B S w0 W hF hA0; omega
  | succ F ih =>
    intro g gb n N cap a m b r P A B S w0 W hF hA0 hB0 HC h hP hA hB hN hsz hsA hsB hx hr
    by_cases hA1 : A.length = 1
    · obtain ⟨x, rfl⟩ : ∃ x, A = [x] := by
        match A, hA1 with
        | [x], _ => exact ⟨x, rfl⟩
      have e : (m : Int) = (a : Int) + 1 := by simp at hA; omega
      rw [e]
      exact sym_left g gb n N cap a b r P B S x w0 W HC (by simpa using h) hP (by simp at hA; omega) hN hsz hsB (fun y hy => hx x (by simp) y hy) (fun y hy => hr y (by simpa using hy))
    by_cases hB1 : B.length = 1
    · obtain ⟨y, rfl⟩ : ∃ y, B = [y] := by
        match B, hB1 with
        | [y], _ => exact ⟨y, rfl⟩
      have e : (b : Int) = (m : Int) + 1 := by simp at hB; omega
      rw [e]
      exact sym_right g gb n N cap a m r P A S y w0 W HC (by simpa using h) hP hA (by omega) (by simp at hB; omega) hsz hsA (fun x hx' => hx x hx' y (by simp)) (fun x hx' => hr x (by
        rcases List.mem_cons.1 hx' with rfl | hx'
        · simp
        · simp [hx']))
    have hA2 : a + 2 ≤ m := by omega
    have hB2 : m + 2 ≤ b := by omega
    obtain ⟨mid, hmid⟩ : ∃ mid, (a + b) / 2 = mid := ⟨_, rfl⟩
    obtain ⟨s0, r0, k1, k2, k3, k4, k5, k6, k7, k8⟩ := mid_cases a m b mid hmid hA2 hB2
    have e1 : ((a : Int) + (b : Int)) / 2 = (mid : Int) := by omega
    have d0 : ((m : Int) - (a : Int) == 1) = false := by simp; omega
    have d1 : ((b : Int) - (m : Int) == 1) = false := by simp; omega
    have hbN : b ≤ N := by omega
    have hma : a ≤ mid := by omega
    have hmb : mid < b := by omega
    have IH := Lib.hid ih
    have H := Lib.hid h; have HP := Lib.hid hP; have HA := Lib.hid hA; have HB := Lib.hid hB; have HN := Lib.hid hN; have HF := Lib.hid hF
    have HSA := Lib.hid hsA; have HSB := Lib.hid hsB; have HX := Lib.hid hx; have HR := Lib.hid hr; have HCl := Lib.hid HC
    have HK6 := Lib.hid k6; have HK7 := Lib.hid k7; have HMid := Lib.hid hmid
    clear h hP hA hB hN hsA hsB hx hr HC ih hF hA0 hB0 hA1 hB1 k6 k7 hmid
    rcases k8 with ⟨m1, m2, m3⟩ | ⟨m1, m2, m3⟩
    case' inl =>
      have dm : (mid : Int) < (m : Int) := by omega
      have dm2 : decide (mid < m) = true := decide_eq_true (by omega)
      have es : (mid : Int) + (m : Int) - (b : Int) = (s0 : Int) := by omega
    case' inr =>
      have dm : ¬ (mid : Int) < (m : Int) := by omega
      have dm2 : decide (mid < m) = false := decide_eq_false (by omega)
      have es := trivial
    all_goals
      have M2 := Lib.hid m2
      have M3 := Lib.hid m3
      clear m1 m2 m3
      go_enter Tryd.func43, Tryd.ntmps43
      go_wp2
      clear es dm dm2
      go_loopw [20, 21] (fun iv jv wr => ∃ i j : Nat, iv = .int .i64 i ∧ jv = .int .i64 j ∧ s0 ≤ i ∧ i ≤ j ∧ j ≤ r0 ∧ Hid (∀ k, s0 ≤ k → k < i → L r (A.getD (k - a) 0) (B.getD (mid - 1 - k) 0)) ∧ Hid (∀ k, j ≤ k → k < r0 → L r (B.getD (mid - 1 - k) 0) (A.getD (k - a) 0)) ∧ Hid (SR w0 g (P ++ A ++ B ++ S) wr)) (fun iv jv _ => ((intOf jv) - (intOf iv)).toNat)
      case atStart => exact ⟨s0, r0, by first | rfl | (rw [M2.out]), by first | rfl | (rw [M3.out]), Nat.le_refl _, k2, Nat.le_refl _, Lib.hid (fun k h1 h2 => by omega), Lib.hid (fun k h1 h2 => by omega), H⟩
      case round =>
        clear H
        obtain ⟨i, j, rfl, rfl, hi, hij, hj, HLo, HHi, HS⟩ := hrel
        by_cases hlt : i < j
        · obtain ⟨h, hh⟩ : ∃ h : Nat, (i + j) / 2 = h := ⟨_, rfl⟩
          have e2 : ((i : Int) + (j : Int)) / 2 = (h : Int) := by omega
          have hi1 : i ≤ h := by omega
          have hj1 : h < j := by omega
          have hlt' : (i : Int) < (j : Int) := by omega
          have hkA : h - a < A.length := by have := HA.out; omega
          have hkB : mid - 1 - h < B.length := by have := HB.out; omega
          have c1 : wr.cell? ⟨g, mid + m - 1 - h, none⟩ = some (.int .i64 (B.getD (mid - 1 - h) 0)) := SR.mid (P := P ++ A) (B := B) (S := S) HS.out hkB (by rw [List.length_append, HP.out]; have := HA.out; omega)
          have c2 : wr.cell? ⟨g, h, none⟩ = some (.int .i64 (A.getD (h - a) 0)) := SR.mid (P := P) (B := A) (S := B ++ S) (by simpa using HS.out) hkA (by rw [HP.out]; omega)
          have hmA := mem_at hkA
          have hmB := mem_at hkB
          have hxy := HX.out _ hmA _ hmB
          have hrA := HR.out _ (List.mem_append_left B hmA)
          have hrB := HR.out _ (List.mem_append_right A hmB)
          have HLow : Hid (L r (A.getD (h - a) 0) (B.getD (mid - 1 - h) 0) → ∀ k, s0 ≤ k → k < h + 1 → L r (A.getD (k - a) 0) (B.getD (mid - 1 - k) 0)) := Lib.hid (fun hl k hk1 hk2 => by
            rcases Nat.lt_or_eq_of_le (show k ≤ h by omega) with h1 | h1
            · exact L_trans (srt_at HSA.out (show k - a < h - a by omega) hkA) (L_trans hl (srt_at HSB.out (show mid - 1 - h < mid - 1 - k by omega) (by have := HB.out; omega)))
            · rw [h1]; exact hl)
          have HHigh : Hid (L r (B.getD (mid - 1 - h) 0) (A.getD (h - a) 0) → ∀ k, h ≤ k → k < r0 → L r (B.getD (mid - 1 - k) 0) (A.getD (k - a) 0)) := Lib.hid (fun hl k hk1 hk2 => by
            rcases Nat.lt_or_eq_of_le hk1 with h1 | h1
            · exact L_trans (srt_at HSB.out (show mid - 1 - k < mid - 1 - h by omega) hkB) (L_trans hl (srt_at HSA.out (show h - a < k - a by omega) (by have := HA.out; omega)))
            · rw [← h1]; exact hl)
          generalize A.getD (h - a) 0 = x at *
          generalize B.getD (mid - 1 - h) 0 = y at *
          obtain ⟨z, hz, hd⟩ := HCl.out _ _ HS.out y x hrB.1 hrB.2 hrA.1 hrA.2
          have HZ := Lib.hid hz
          obtain ⟨q1, q2⟩ := L_cross (r := r) hxy
          have h01 : (0 : Int) ≤ (h : Int) := by omega
          have h02 : (h : Int) < (N : Int) := by omega
          have ep : (mid : Int) + (m : Int) - 1 - (h : Int) = ((mid + m - 1 - h : Nat) : Int) := by omega
          have hp2 : mid + m - 1 - h < N := by omega
          obtain ⟨pc, hpc⟩ : ∃ pc, mid + m - 1 - h = pc := ⟨_, rfl⟩
          rw [hpc] at c1 ep hp2
          have wr1 : IntKind.i64.wrap ((mid : Int) + (m : Int) - 1 - (h : Int)) = (pc : Int) := by rw [ep]; exact IntWalk.i64_in _ (by omega)
          have h03 : (pc : Int) < (N : Int) := by omega
          have h04 : (0 : Int) ≤ (pc : Int) := by omega
          by_cases hd2 : r x < r y
          · have d2 : decide (z < 0) = true := by rw [hd]; exact decide_eq_true hd2
            have HL2 := Lib.hid (HHigh.out (q1.1 hd2))
            clear hd hz q1 q2 hd2 hxy hrA hrB hmA hmB hh HLow HHigh hpc ep
            go_wp2
            go_quiet ((go_at_call 32; exact Calls.quiet_of (HZ.out _)))
            go_wp2
            go_roundw
            case rel => exact ⟨i, h, rfl, rfl, hi, by omega, by omega, HLo, HL2, Lib.hid (HS.out.drewN _)⟩
            case measure => simp [intOf]; omega
          · have d2 : decide (z < 0) = false := by rw [hd]; exact decide_eq_false hd2
            have HL2 := Lib.hid (HLow.out (q2.1 hd2))
            clear hd hz q1 q2 hd2 hxy hrA hrB hmA hmB hh HLow HHigh hpc ep
            go_wp2
            go_quiet ((go_at_call 32; exact Calls.quiet_of (HZ.out _)))
            go_wp2
            go_roundw
            case rel => exact ⟨h + 1, j, by go_num, rfl, by omega, by omega, hj, HL2, HHi, Lib.hid (HS.out.drewN _)⟩
            case measure => simp [intOf]; omega
        · obtain rfl : i = j := by omega
          clear hij
          obtain ⟨A1, A2, hAe, hA1, hA2', hg1, hg2⟩ := cut2 A (i - a) (by have := HA.out; omega)
          obtain ⟨B1, B2, hBe, hB1, hB2', hf1, hf2⟩ := cut2 B (mid - i) (by have := HB.out; have := HA.out; omega)
          obtain ⟨en, hen⟩ : ∃ en, mid + m - i = en := ⟨_, rfl⟩
          have len1 : A1.length + a = i := by omega
          have len2 : A2.length + i = m := by have := HA.out; omega
          have len3 : B1.length + i = mid := by omega
          have len4 : B2.length + en = b := by have := HB.out; omega
          obtain ⟨x1, x2⟩ := parted (r := r) (A1 := A1) (A2 := A2) (B1 := B1) (B2 := B2) (by rw [← hAe]; exact HSA.out) (by rw [← hBe]; exact HSB.out)
            (fun p q => by
              have := HLo.out (i - 1) (by have := HK6.out; omega) (by omega)
              rw [hg1 _ (by omega), hf2 0, show A1.length - 1 = i - 1 - a by omega, show mid - i + 0 = mid - 1 - (i - 1) by omega]
              exact this)
            (fun p q => by
              have := HHi.out i (Nat.le_refl _) (by have := HK7.out; omega)
              rw [hf1 _ (by omega), hg2 0, show B1.length - 1 = mid - 1 - i by omega, show i - a + 0 = i - a by omega]
              exact this)
          obtain ⟨a1, a2, a3⟩ := srt_split (by rw [← hAe]; exact HSA.out : Srt r (A1 ++ A2))
          obtain ⟨b1, b2, b3⟩ := srt_split (by rw [← hBe]; exact HSB.out : Srt r (B1 ++ B2))
          have HOut : Hid (∀ C1 C2 w', C1.Perm (A1 ++ B1) → Srt r C1 → C2.Perm (A2 ++ B2) → Srt r C2 → SR w0 g (P ++ C1 ++ C2 ++ S) w' → SymOut r w0 g P (A ++ B) S (.returned (.tuple #[])) w') := Lib.hid (fun C1 C2 w' p1 s1 p2 s2 h => by
            refine ⟨rfl, C1 ++ C2, ?_, srt_join s1 s2 fun x hx y hy => ?_, by simpa using h⟩
            · rw [hAe, hBe]
              have h1 : (C1 ++ C2).Perm ((A1 ++ B1) ++ (A2 ++ B2)) := p1.append p2
              refine h1.trans ?_
              have h2 : (B1 ++ (A2 ++ B2)).Perm (A2 ++ (B1 ++ B2)) := by
                rw [← List.append_assoc, ← List.append_assoc]
                exact List.perm_append_comm.append_right B2
              simpa using h2.append_left A1
            · rcases List.mem_append.1 (p1.mem_iff.1 hx) with hx | hx <;> rcases List.mem_append.1 (p2.mem_iff.1 hy) with hy | hy
              · exact a3 x hx y hy
              · exact x1 x hx y hy
              · exact x2 x hx y hy
              · exact b3 x hx y hy)
          have HS0 : Hid (SR w0 g (P ++ A1 ++ A2 ++ B1 ++ (B2 ++ S)) wr) := Lib.hid (by have := HS.out; rw [hAe, hBe] at this; simpa using this)
          have HXC : Hid (∀ x, x ∈ A1 ∨ x ∈ A2 → ∀ y, y ∈ B1 ∨ y ∈ B2 → x < y) := Lib.hid (fun x hx y hy => HX.out x (by rw [hAe]; exact List.mem_append.2 hx) y (by rw [hBe]; exact List.mem_append.2 hy))
          have HRC : Hid (∀ x, (x ∈ A1 ∨ x ∈ A2) ∨ (x ∈ B1 ∨ x ∈ B2) → 0 ≤ x ∧ x < n) := Lib.hid (fun x hx => HR.out x (by rw [hAe, hBe, List.mem_append, List.mem_append, List.mem_append]; exact hx))
          have SA1 := Lib.hid a1; have SA2 := Lib.hid a2; have SB1 := Lib.hid b1; have SB2 := Lib.hid b2
          have hsum : A1.length + B1.length ≤ F ∧ A2.length + B2.length ≤ F := by have := HF.out; have := HA.out; have := HB.out; omega
          have een : (mid : Int) + (m : Int) - (i : Int) = (en : Int) := by omega
          have HSUM := Lib.hid hsum
          have HNN : Hid (en + (B2 ++ S).length = N) := Lib.hid (by rw [List.length_append]; have := HN.out; omega)
          clear hAe hBe hA1 hA2' hB1 hB2' hg1 hg2 hf1 hf2 x1 x2 a1 a2 a3 b1 b2 b3 HLo HHi HS HX HR HSA HSB HA HB HF M2 M3 HK6 HK7 HMid hsum k1 k2 k3 k4 k5 hi hj hen e1
          have hrot : (0 < A2.length ∧ 0 < B1.length) ∨ ¬ 0 < A2.length ∨ (0 < A2.length ∧ ¬ 0 < B1.length) := by omega
          refine Or.elim hrot (fun hh => ?_) (fun hh => Or.elim hh (fun hh => ?_) (fun hh => ?_))
          case' _ =>
            obtain ⟨g1, g2⟩ := hh
            have c1 : (i : Int) < (m : Int) := by omega
            have c2 : (m : Int) < (en : Int) := by omega
            have HRo := Lib.hid (rotate_any g N cap i m en (P ++ A1) A2 B1 (B2 ++ S) (fnv gb) w0 wr HS0.out (by rw [List.length_append, HP.out]; omega) (by omega) (by omega) g1 g2 HNN.out hsz)
            go_upto_region 41 with (go_at_call 48; (with_reducible refine HRo.out.mono ?_); rintro e w2 ⟨rfl, h2⟩; have H2 : Hid (SR w0 g (P ++ A1 ++ B1 ++ (A2 ++ B2 ++ S)) w2) := Lib.hid (by simpa using h2); clear h2)
            clear c1 c2
          rotate_left
          case' _ =>
            have g1 := hh
            have c1 : ¬ (i : Int) < (m : Int) := by omega
            go_upto_region 41 with (fail)
            have H2 : Hid (SR w0 g (P ++ A1 ++ B1 ++ (A2 ++ B2 ++ S)) wr) := Lib.hid (by have := HS0.out; rw [show A2 = [] from List.length_eq_zero_iff.1 (by omega)] at this ⊢; simpa using this)
            clear c1
            obtain ⟨w2, rfl⟩ : ∃ w2, w2 = wr := ⟨_, rfl⟩
          rotate_left
          case' _ =>
            obtain ⟨g1, g2⟩ := hh
            have c1 : (i : Int) < (m : Int) := by omega
            have c2 : ¬ (m : Int) < (en : Int) := by omega
            go_upto_region 41 with (fail)
            have H2 : Hid (SR w0 g (P ++ A1 ++ B1 ++ (A2 ++ B2 ++ S)) wr) := Lib.hid (by have := HS0.out; rw [show B1 = [] from List.length_eq_zero_iff.1 (by omega)] at this ⊢; simpa using this)
            clear c1 c2
            obtain ⟨w2, rfl⟩ : ∃ w2, w2 = wr := ⟨_, rfl⟩
          all_goals
            clear HS0
            have hrec : (0 < A1.length ∧ 0 < B1.length) ∨ ¬ 0 < A1.length ∨ (0 < A1.length ∧ ¬ 0 < B1.length) := by omega
            refine Or.elim hrec (fun hh => ?_) (fun hh => Or.elim hh (fun hh => ?_) (fun hh => ?_))
            case' _ =>
              obtain ⟨t1, t2⟩ := hh
              have c1 : (a : Int) < (i : Int) := by omega
              have c2 : (i : Int) < (mid : Int) := by omega
              have HRec := Lib.hid (IH.out g gb n N cap a i mid r P A1 B1 (A2 ++ B2 ++ S) w0 w2 HSUM.out.1 t1 t2 HCl.out H2.out HP.out (by omega) (by omega) (by rw [List.length_append, List.length_append]; have := HN.out; omega) hsz SA1.out SB1.out
                (fun x hx y hy => HXC.out x (.inl hx) y (.inl hy)) (fun x hx => by rcases List.mem_append.1 hx with hx | hx; exact HRC.out x (.inl (.inl hx)); exact HRC.out x (.inr (.inl hx))))
              go_upto_region 43 with (go_at_call 43; (with_reducible refine HRec.out.mono ?_); rintro e w3 ⟨rfl, C1, p1, s1, h3⟩; have H3 := Lib.hid h3; have HP1 := Lib.hid p1; have HS1 := Lib.hid s1; clear h3 p1 s1)
              clear c1 c2 HRec
            rotate_left
            case' _ =>
              have t1 := hh
              have c1 : ¬ (a : Int) < (i : Int) := by omega
              go_upto_region 43 with (fail)
              obtain ⟨C1, p1, s1, h3⟩ : ∃ C1 : List Int, C1.Perm (A1 ++ B1) ∧ Srt r C1 ∧ SR w0 g (P ++ C1 ++ (A2 ++ B2 ++ S)) w2 := ⟨A1 ++ B1, List.Perm.refl _, by rw [show A1 = [] from List.length_eq_zero_iff.1 (by omega)]; exact SB1.out, by simpa using H2.out⟩
              have H3 := Lib.hid h3; have HP1 := Lib.hid p1; have HS1 := Lib.hid s1
              clear c1 p1 s1 h3
              obtain ⟨w3, rfl⟩ : ∃ w3, w3 = w2 := ⟨_, rfl⟩
            rotate_left
            case' _ =>
              obtain ⟨t1, t2⟩ := hh
              have c1 : (a : Int) < (i : Int) := by omega
              have c2 : ¬ (i : Int) < (mid : Int) := by omega
              go_upto_region 43 with (fail)
              obtain ⟨C1, p1, s1, h3⟩ : ∃ C1 : List Int, C1.Perm (A1 ++ B1) ∧ Srt r C1 ∧ SR w0 g (P ++ C1 ++ (A2 ++ B2 ++ S)) w2 := ⟨A1 ++ B1, List.Perm.refl _, by rw [show B1 = [] from List.length_eq_zero_iff.1 (by omega), List.append_nil]; exact SA1.out, by simpa using H2.out⟩
              have H3 := Lib.hid h3; have HP1 := Lib.hid p1; have HS1 := Lib.hid s1
              clear c1 c2 p1 s1 h3
              obtain ⟨w3, rfl⟩ : ∃ w3, w3 = w2 := ⟨_, rfl⟩
            all_goals
              clear H2
              have hpl : (P ++ C1).length = mid := by rw [List.length_append, HP.out, HP1.out.length_eq, List.length_append]; omega
              have HPl := Lib.hid hpl
              clear hpl
              have hrec : (0 < A2.length ∧ 0 < B2.length) ∨ ¬ 0 < A2.length ∨ (0 < A2.length ∧ ¬ 0 < B2.length) := by omega
              rcases hrec with ⟨u1, u2⟩ | u1 | ⟨u1, u2⟩
              · have c1 : (mid : Int) < (en : Int) := by omega
                have c2 : (en : Int) < (b : Int) := by omega
                have HRec := Lib.hid (IH.out g gb n N cap mid en b r (P ++ C1) A2 B2 S w0 w3 HSUM.out.2 u1 u2 HCl.out (by simpa using H3.out) HPl.out (by omega) (by omega) HN.out hsz SA2.out SB2.out
                  (fun x hx y hy => HXC.out x (.inr hx) y (.inr hy)) (fun x hx => by rcases List.mem_append.1 hx with hx | hx; exact HRC.out x (.inl (.inr hx)); exact HRC.out x (.inr (.inr hx))))
                go_wp2_with (go_at_call 43; (with_reducible refine HRec.out.mono ?_); rintro e w4 ⟨rfl, C2, p2, s2, h4⟩)
                go_end0
                exact HOut.out C1 C2 _ HP1.out HS1.out p2 s2 h4
              · have c1 : ¬ (mid : Int) < (en : Int) := by omega
                go_wp2_with fail
                go_end0
                exact HOut.out C1 (A2 ++ B2) _ HP1.out HS1.out (List.Perm.refl _) (by rw [show A2 = [] from List.length_eq_zero_iff.1 (by omega)]; exact SB2.out) (by simpa using H3.out)
              · have c1 : (mid : Int) < (en : Int) := by omega
                have c2 : ¬ (en : Int) < (b : Int) := by omega
                go_wp2_with fail
                go_end0
                exact HOut.out C1 (A2 ++ B2) _ HP1.out HS1.out (List.Perm.refl _) (by rw [show B2 = [] from List.length_eq_zero_iff.1 (by omega), List.append_nil]; exact SA2.out) (by simpa using H3.out)
end Go.Proofs.YtopngdjhnljmfaaDoor.St
