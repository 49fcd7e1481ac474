/- Walks: whether an identity is seen; how many are; why one is refused. -/
import Derived.Test.YtgobbeommjjlfaaDdC
import Derived.Test.YtgobbeommjjlfaaDdS
namespace Go.Proofs.Ytgobbeommjjlfaa
open Go.RowKit

set_option maxHeartbeats 4000000 in
theorem has_any (A : Option Addr) (n c : Nat) (l : List Rg) (s x : Int) (w : World) (hl : Can l) (h6 : n ≤ 1000000) (hA : RgR w A l) (hn : l.length = n) (hc : n ≤ c) (hm : c ≤ maxLen) :
    Calls Try.prog 14 #[.slice A n c, .int .i64 s, .int .i64 x] w fun e w' => e = .returned (.bool (hasL l s x)) ∧ Below w.heap.size w w' := by
  have hH := has_at (s := s) (x := x) hl
  have HPL := Lib.hid (place_any A n c l s x w hl h6 hA hn hc hm)
  have hpl := plc_le s x l
  obtain ⟨p, hp⟩ : ∃ p, plc s x l = p := ⟨_, rfl⟩
  rw [hp] at HPL hH hpl
  rw [hn] at hH hpl
  unfold maxLen at hm
  by_cases hlt : p < n
  · obtain ⟨bk, off, rfl, hbl, e0, e1, e2⟩ := hA p (by omega)
    obtain ⟨⟨rs, rf, rt⟩, hpr⟩ : ∃ q, l.getD p rg0 = q := ⟨_, rfl⟩
    rw [hpr] at e0 e1 hH
    simp only at e0 e1 hH
    have hlt' : (p : Int) < (n : Int) := by omega
    have h0' : (0 : Int) ≤ (p : Int) := by omega
    by_cases x1 : rs = s
    · subst x1
      by_cases x2 : rf ≤ x
      · have d2 : decide (rf ≤ x) = true := decide_eq_true x2
        rw [decide_eq_true hlt, d2] at hH
        have HH := Lib.hid hH
        clear hH hA hl hn hp hpr e2
        go_enter Try.func14, Try.ntmps14
        go_wp2_with (go_at_call 30; (with_reducible refine HPL.out.mono ?_); rintro e w1 ⟨rfl, hb1⟩; have f0 := (hb1.cell (p := ⟨bk, off + p * 3, none⟩) hbl).trans e0; have f1 := (hb1.cell (p := ⟨bk, off + p * 3 + 1, none⟩) hbl).trans e1)
        go_ret
        exact ⟨ret_bool (by rw [HH.out]; simp), hb1⟩
      · have d2 : decide (rf ≤ x) = false := decide_eq_false x2
        rw [decide_eq_true hlt, d2] at hH
        have HH := Lib.hid hH
        clear hH hA hl hn hp hpr e2
        go_enter Try.func14, Try.ntmps14
        go_wp2_with (go_at_call 30; (with_reducible refine HPL.out.mono ?_); rintro e w1 ⟨rfl, hb1⟩; have f0 := (hb1.cell (p := ⟨bk, off + p * 3, none⟩) hbl).trans e0; have f1 := (hb1.cell (p := ⟨bk, off + p * 3 + 1, none⟩) hbl).trans e1)
        go_ret
        exact ⟨ret_bool (by rw [HH.out]; simp), hb1⟩
    · have d1 : (rs == s) = false := by simp [x1]
      rw [decide_eq_true hlt, decide_eq_false x1] at hH
      have HH := Lib.hid hH
      clear hH hA hl hn hp hpr e2
      go_enter Try.func14, Try.ntmps14
      go_wp2_with (go_at_call 30; (with_reducible refine HPL.out.mono ?_); rintro e w1 ⟨rfl, hb1⟩; have f0 := (hb1.cell (p := ⟨bk, off + p * 3, none⟩) hbl).trans e0; have f1 := (hb1.cell (p := ⟨bk, off + p * 3 + 1, none⟩) hbl).trans e1)
      go_ret
      exact ⟨ret_bool (by rw [HH.out]; simp), hb1⟩
  · obtain rfl : p = n := by omega
    rw [decide_eq_false (Nat.lt_irrefl p)] at hH
    have HH := Lib.hid hH
    clear hH hA hl hn hp
    go_enter Try.func14, Try.ntmps14
    go_wp2_with (go_at_call 30; (with_reducible refine HPL.out.mono ?_); rintro e w1 ⟨rfl, hb1⟩)
    go_ret
    exact ⟨ret_bool (by rw [HH.out]; rfl), hb1⟩
theorem has_is (v : Bool) (A : Option Addr) (n c : Nat) (l : List Rg) (s x : Int) (hv : hasL l s x = v) (w : World) (hl : Can l) (h6 : n ≤ 1000000) (hA : RgR w A l) (hn : l.length = n) (hc : n ≤ c) (hm : c ≤ maxLen) :
    Calls Try.prog 14 #[.slice A n c, .int .i64 s, .int .i64 x] w fun e w' => e = .returned (.bool v) ∧ Below w.heap.size w w' := by
  subst hv; exact has_any A n c l s x w hl h6 hA hn hc hm

theorem any_upto {l : List Rg} {q : Rg → Bool} {k : Nat} (h : ∀ j, j < k → q (l.getD j rg0) = false) (hk : l.length ≤ k) : l.any q = false := by
  rw [List.any_eq_false]
  intro z hz
  obtain ⟨j, hj, rfl⟩ := List.mem_iff_getElem.1 hz
  have := h j (by omega)
  simpa [List.getD, List.getElem?_eq_getElem hj] using this
theorem any_hit {l : List Rg} {q : Rg → Bool} {k : Nat} (hk : k < l.length) (h : q (l.getD k rg0) = true) : l.any q = true := by
  rw [List.any_eq_true]
  refine ⟨l.getD k rg0, ?_, h⟩
  rw [List.getD_eq_getElem?_getD, List.getElem?_eq_getElem hk]; exact List.getElem_mem hk
set_option maxHeartbeats 4000000 in
theorem refHas_any (A : Option Addr) (n c : Nat) (l : List Rg) (s x : Int) (w : World) (hl : Can l) (hA : RgR w A l) (hn : l.length = n) (hc : n ≤ c) (hm : c ≤ maxLen) :
    Calls Try.prog 15 #[.slice A n c, .int .i64 s, .int .i64 x] w fun e w' => e = .returned (.bool (hasL l s x)) ∧ w = w' := by
  unfold maxLen at hm
  have HA := Lib.hid hA; have HN := Lib.hid hn; have HL := Lib.hid hl
  clear hA hn hl
  go_enter Try.func15, Try.ntmps15
  go_wp2_with fail
  go_loop [7] (fun iv => ∃ k : Nat, iv = .int .i64 k ∧ k ≤ n ∧ Hid (∀ j, j < k → inR s x (l.getD j rg0) = false)) (fun iv => n - (intOf iv).toNat)
  case atStart => exact ⟨0, rfl, by omega, Lib.hid fun j h => absurd h (Nat.not_lt_zero j)⟩
  case round =>
    obtain ⟨k, rfl, hk, HO⟩ := hrel
    by_cases hlt : k < n
    · have hkl : k < l.length := by rw [HN.out]; exact hlt
      obtain ⟨bk, off, rfl, hbl, e0, e1, e2⟩ := HA.out k hkl
      have hlt' : (k : Int) < (n : Int) := by omega
      obtain ⟨⟨rs, rf, rt⟩, hp⟩ : ∃ p, l.getD k rg0 = p := ⟨_, rfl⟩
      rw [hp] at e0 e1 e2
      simp only at e0 e1 e2
      by_cases hi : inR s x (rs, rf, rt) = true
      · have HH := Lib.hid (any_hit (q := inR s x) hkl (by rw [hp]; exact hi))
        have HI := Lib.hid (has_id HL.out HH.out)
        have HID := Lib.hid (refIdent_is HI.out)
        obtain ⟨x1, x2, x3⟩ := inR_iff.1 hi
        simp only at x1 x2 x3
        subst x1
        have d2 : decide (rf ≤ x) = true := decide_eq_true x2
        have d3 : decide (x ≤ rt) = true := decide_eq_true x3
        clear hi hp hkl HO
        go_wp2_with (go_at_call 29; (with_reducible refine (HID.out _).mono ?_); rintro e w1 ⟨rfl, rfl⟩)
        go_ret
        exact ⟨ret_bool HH.out.symm, rfl⟩
      · have hi' : inR s x (rs, rf, rt) = false := by simpa using hi
        have HO2 : Hid (∀ j, j < k + 1 → inR s x (l.getD j rg0) = false) := Lib.hid fun j h => by
          rcases Nat.lt_or_ge j k with h | h
          · exact HO.out j h
          · obtain rfl : j = k := by omega
            rw [hp]; exact hi'
        have hni : ¬ (rs = s ∧ rf ≤ x ∧ x ≤ rt) := fun h => hi (inR_iff.2 h)
        clear hi hi' hp hkl HO
        by_cases x1 : rs = s
        · subst x1
          by_cases x2 : rf ≤ x
          · have x3 : ¬ x ≤ rt := fun h => hni ⟨rfl, x2, h⟩
            have d2 : decide (rf ≤ x) = true := decide_eq_true x2
            have d3 : decide (x ≤ rt) = false := decide_eq_false x3
            clear hni
            go_wp2_with fail
            go_round
            case rel => exact ⟨k + 1, by go_num, by omega, HO2⟩
            case measure => simp [intOf]; omega
          · have d2 : decide (rf ≤ x) = false := decide_eq_false x2
            clear hni
            go_wp2_with fail
            go_round
            case rel => exact ⟨k + 1, by go_num, by omega, HO2⟩
            case measure => simp [intOf]; omega
        · have d1 : (rs == s) = false := by simp [x1]
          clear hni
          go_wp2_with fail
          go_round
          case rel => exact ⟨k + 1, by go_num, by omega, HO2⟩
          case measure => simp [intOf]; omega
    · obtain rfl : k = n := by omega
      have HH : Hid (hasL l s x = false) := Lib.hid (any_upto HO.out (by rw [HN.out]; omega))
      clear HO
      go_wp2_with fail
      go_ret
      exact ⟨ret_bool HH.out.symm, rfl⟩

/-- How many identities are seen. -/
def cntL (l : List Rg) : Int := (l.map fun r => r.2.2 - r.2.1 + 1).sum
theorem cnt_step {l : List Rg} {k : Nat} {s f t : Int} (hk : k < l.length) (hp : l.getD k rg0 = (s, f, t)) : cntL (l.take (k + 1)) = cntL (l.take k) + (t - f + 1) := by
  have e : l[k] = (s, f, t) := by rw [← hp, List.getD_eq_getElem?_getD, List.getElem?_eq_getElem hk]; rfl
  unfold cntL
  rw [List.take_succ_eq_append_getElem hk, List.map_append, List.sum_append, e]
  simp
theorem can_get {l : List Rg} (hl : Can l) {k : Nat} {s f t : Int} (hk : k < l.length) (hp : l.getD k rg0 = (s, f, t)) : 1 ≤ s ∧ s ≤ 99 ∧ 1 ≤ f ∧ f ≤ t ∧ t ≤ 999999999 := by
  have hm : (s, f, t) ∈ l := by rw [← hp, List.getD_eq_getElem?_getD, List.getElem?_eq_getElem hk]; exact List.getElem_mem hk
  obtain ⟨a, b, c⟩ := okR_iff.1 (hl.1 _ hm)
  rw [idB_iff] at a b
  simp only at a b c
  omega
theorem cnt_bound {l : List Rg} (hl : Can l) : ∀ k, k ≤ l.length → (k : Int) ≤ cntL (l.take k) ∧ cntL (l.take k) ≤ k * 1000000000
  | 0, _ => by simp [cntL]
  | k + 1, hk => by
    obtain ⟨h1, h2⟩ := cnt_bound hl k (by omega)
    obtain ⟨⟨s, f, t⟩, hp⟩ : ∃ p, l.getD k rg0 = p := ⟨_, rfl⟩
    obtain ⟨a, b, c, d, e⟩ := can_get hl (by omega) hp
    rw [cnt_step (by omega) hp]
    omega
set_option maxHeartbeats 4000000 in
theorem count_any (A : Option Addr) (n c : Nat) (l : List Rg) (w : World) (hl : Can l) (h6 : n ≤ 1000000) (hA : RgR w A l) (hn : l.length = n) (hc : n ≤ c) (hm : c ≤ maxLen) :
    Calls Try.prog 16 #[.slice A n c] w fun e w' => e = .returned (.int .i64 (cntL l)) ∧ Below w.heap.size w w' := by
  unfold maxLen at hm
  have HA := Lib.hid hA; have HN := Lib.hid hn; have HL := Lib.hid hl; have HBD := Lib.hid (cnt_bound hl)
  clear hA hn hl
  go_enter Try.func16, Try.ntmps16
  go_wp2_with fail
  go_loopw [3, 8] (fun sv iv wr => ∃ k : Nat, iv = .int .i64 k ∧ sv = .int .i64 (cntL (l.take k)) ∧ k ≤ n ∧ Below w.heap.size w wr) (fun _ iv _ => n - (intOf iv).toNat)
  case atStart => exact ⟨0, rfl, rfl, by omega, Below.refl _ _⟩
  case round =>
    obtain ⟨k, rfl, rfl, hk, hb⟩ := hrel
    have hs := hb.size
    by_cases hlt : k < n
    · have hkl : k < l.length := by rw [HN.out]; exact hlt
      obtain ⟨bk, off, rfl, hbl, g0, g1, g2⟩ := HA.out k hkl
      have e0 := (hb.cell (p := ⟨bk, off + k * 3, none⟩) hbl).trans g0
      have e1 := (hb.cell (p := ⟨bk, off + k * 3 + 1, none⟩) hbl).trans g1
      have e2 := (hb.cell (p := ⟨bk, off + k * 3 + 2, none⟩) hbl).trans g2
      have hlt' : (k : Int) < (n : Int) := by omega
      obtain ⟨⟨s, f, t⟩, hp⟩ : ∃ p, l.getD k rg0 = p := ⟨_, rfl⟩
      rw [hp] at e0 e1 e2
      simp only at e0 e1 e2
      obtain ⟨i1, i2, i3, i4, i5⟩ := can_get HL.out hkl hp
      obtain ⟨b1, b2⟩ := HBD.out k (by omega)
      have HST := Lib.hid (cnt_step hkl hp)
      obtain ⟨T, hT⟩ : ∃ T, cntL (l.take k) = T := ⟨_, rfl⟩
      rw [hT] at b1 b2 HST ⊢
      have hBn := Blk.new wr 44 #[.int .i64 s, .int .i64 f, .int .i64 t]
      have hbn : Below w.heap.size w (wr.alloc (.cells #[.int .i64 s, .int .i64 f, .int .i64 t] 44)) := hb.alloc hs _
      obtain ⟨c0, c1, c2⟩ := hBn.three
      have hk64 : (k : Int) ≤ 1000000 := by omega
      have hT2 : T ≤ 1000000000000000 := by omega
      clear g0 g1 g2 hp hkl hT hBn b2
      go_wp2_with fail
      go_roundw
      case rel => exact ⟨k + 1, by go_num, by rw [HST.out], by omega, hbn⟩
      case measure => simp [intOf]; omega
    · obtain rfl : k = n := by omega
      have HT : Hid (l.take k = l) := Lib.hid (by rw [← HN.out, List.take_length])
      rw [HT.out]
      go_wp2_with fail
      go_ret
      exact ⟨rfl, hb⟩
set_option maxHeartbeats 4000000 in
theorem refCount_any (A : Option Addr) (n c : Nat) (l : List Rg) (w : World) (hl : Can l) (h6 : n ≤ 1000000) (hA : RgR w A l) (hn : l.length = n) (hc : n ≤ c) (hm : c ≤ maxLen) :
    Calls Try.prog 17 #[.slice A n c] w fun e w' => e = .returned (.int .i64 (cntL l)) ∧ Below w.heap.size w w' := by
  unfold maxLen at hm
  have HA := Lib.hid hA; have HN := Lib.hid hn; have HL := Lib.hid hl; have HBD := Lib.hid (cnt_bound hl)
  clear hA hn hl
  go_enter Try.func17, Try.ntmps17
  go_wp2_with fail
  go_loopw [3, 4] (fun sv iv wr => ∃ k : Nat, iv = .int .i64 k ∧ sv = .int .i64 (cntL (l.take k)) ∧ k ≤ n ∧ Below w.heap.size w wr) (fun _ iv _ => n - (intOf iv).toNat)
  case atStart => exact ⟨0, rfl, rfl, by omega, Below.refl _ _⟩
  case round =>
    obtain ⟨k, rfl, rfl, hk, hb⟩ := hrel
    have hs := hb.size
    by_cases hlt : k < n
    · have hkl : k < l.length := by rw [HN.out]; exact hlt
      obtain ⟨bk, off, rfl, hbl, g0, g1, g2⟩ := HA.out k hkl
      have e1 := (hb.cell (p := ⟨bk, off + k * 3 + 1, none⟩) hbl).trans g1
      have e2 := (hb.cell (p := ⟨bk, off + k * 3 + 2, none⟩) hbl).trans g2
      have hlt' : (k : Int) < (n : Int) := by omega
      obtain ⟨⟨s, f, t⟩, hp⟩ : ∃ p, l.getD k rg0 = p := ⟨_, rfl⟩
      rw [hp] at e1 e2
      simp only at e1 e2
      obtain ⟨i1, i2, i3, i4, i5⟩ := can_get HL.out hkl hp
      obtain ⟨b1, b2⟩ := HBD.out k (by omega)
      have HST := Lib.hid (cnt_step hkl hp)
      obtain ⟨T, hT⟩ : ∃ T, cntL (l.take k) = T := ⟨_, rfl⟩
      rw [hT] at b1 b2 HST ⊢
      have hT2 : T ≤ 1000000000000000 := by omega
      have hw1 : IntKind.i64.wrap (T + t) = T + t := IntWalk.i64_in _ (by omega)
      have hw2 : IntKind.i64.wrap (T + t - f) = T + t - f := IntWalk.i64_in _ (by omega)
      have hw3 : IntKind.i64.wrap (T + t - f + 1) = T + t - f + 1 := IntWalk.i64_in _ (by omega)
      clear g0 g1 g2 hp hkl hT b2
      go_wp2_with fail
      go_quiet (fail)
      clear hw1 hw2 hw3
      go_wp2_with fail
      go_roundw
      case rel => exact ⟨k + 1, by go_num, by rw [HST.out]; exact congrArg _ (by omega), by omega, below_drewN hb _⟩
      case measure => simp [intOf]; omega
    · obtain rfl : k = n := by omega
      have HT : Hid (l.take k = l) := Lib.hid (by rw [← HN.out, List.take_length])
      rw [HT.out]
      go_wp2_with fail
      go_ret
      exact ⟨rfl, hb⟩
/-- Why an identity is refused. -/
def rfs (l : List Rg) (s x : Int) : Int := if idB s x = true then (if hasL l s x = true then 13 else 0) else 6
theorem refusal_any (A : Option Addr) (n c : Nat) (l : List Rg) (s x : Int) (w : World) (hl : Can l) (h6 : n ≤ 1000000) (hA : RgR w A l) (hn : l.length = n) (hc : n ≤ c) (hm : c ≤ maxLen) :
    Calls Try.prog 31 #[.slice A n c, .int .i64 s, .int .i64 x] w fun e w' => e = .returned (.int .i64 (rfs l s x)) ∧ Below w.heap.size w w' := by
  unfold rfs
  cases hi : idB s x
  · have HID := Lib.hid (ident_is hi)
    rw [if_neg (by simp)]
    clear hA hl hn hi
    go_enter Try.func31, Try.ntmps31
    go_wp2_with (go_at_call 27; (with_reducible refine (HID.out _).mono ?_); rintro e w1 ⟨rfl, rfl⟩)
    go_ret
    exact ⟨rfl, Below.refl _ _⟩
  · have HID := Lib.hid (ident_is hi)
    rw [if_pos rfl]
    cases hh : hasL l s x
    · have HH := Lib.hid (has_is _ A n c l s x hh w hl h6 hA hn hc hm)
      rw [if_neg (by simp)]
      clear hA hl hn hi hh
      go_enter Try.func31, Try.ntmps31
      go_wp2_with (first
        | (go_at_call 27; (with_reducible refine (HID.out _).mono ?_); rintro e w1 ⟨rfl, rfl⟩)
        | (go_at_call 14; (with_reducible refine HH.out.mono ?_); rintro e w1 ⟨rfl, hb1⟩))
      go_ret
      exact ⟨rfl, hb1⟩
    · have HH := Lib.hid (has_is _ A n c l s x hh w hl h6 hA hn hc hm)
      rw [if_pos rfl]
      clear hA hl hn hi hh
      go_enter Try.func31, Try.ntmps31
      go_wp2_with (first
        | (go_at_call 27; (with_reducible refine (HID.out _).mono ?_); rintro e w1 ⟨rfl, rfl⟩)
        | (go_at_call 14; (with_reducible refine HH.out.mono ?_); rintro e w1 ⟨rfl, hb1⟩))
      go_ret
      exact ⟨rfl, hb1⟩
theorem light_any (A : Option Addr) (n c : Nat) (l : List Rg) (w : World) (hA : RgR w A l) (hn : l.length = n) (hc : n ≤ c) (hm : c ≤ maxLen) (v : Bool) (hv : (decide (n ≤ 100) && canB l) = v) :
    Calls Try.prog 13 #[.slice A n c] w fun e w' => e = .returned (.bool v) ∧ Below w.heap.size w w' := by
  subst hv
  by_cases h : n ≤ 100
  · have d : decide ((n : Int) ≤ 100) = true := decide_eq_true (by omega)
    have HC := Lib.hid (refCheck_any A n c l w hA hn hc hm)
    have HD := Lib.hid h
    clear hA hn h
    go_enter Try.func13, Try.ntmps13
    go_wp2_with (go_at_call 12; (with_reducible refine HC.out.mono ?_); rintro e w1 ⟨rfl, hb1⟩)
    go_ret
    exact ⟨ret_bool (by rw [decide_eq_true HD.out]; rfl), hb1⟩
  · have d : decide ((n : Int) ≤ 100) = false := decide_eq_false (by omega)
    have HD := Lib.hid h
    clear hA hn h
    go_enter Try.func13, Try.ntmps13
    go_wp2_with fail
    go_ret
    exact ⟨ret_bool (by rw [decide_eq_false HD.out]; rfl), Below.refl _ _⟩
end Go.Proofs.Ytgobbeommjjlfaa
