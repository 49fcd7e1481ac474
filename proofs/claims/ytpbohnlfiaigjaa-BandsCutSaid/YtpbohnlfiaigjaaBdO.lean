/- Walks: the band of an instant, in the program. -/
import Derived.Test.YtpbohnlfiaigjaaBdRC
import Derived.Laws.Shifts
import Derived.Laws.ShiftsVar
import Derived.Laws.ShiftsVarLaws
namespace Go.Proofs.Ytpbohnlfiaigjaa
open Go.RowKit

theorem bits_tab : ∀ (d : Fin 256) (b : Fin 8), (bits BinOp.and .i64 (d.val : Int) ((2 ^ b.val : Nat) : Int) != 0) = decide ((d.val : Int) / ((2 ^ b.val : Nat) : Int) % 2 = 1) := by decide +kernel
theorem bits_at {d : Int} {b : Nat} (h1 : 0 ≤ d) (h2 : d ≤ 255) (hb : b < 8) : (bits BinOp.and .i64 d ((2 ^ b : Nat) : Int) != 0) = decide (d / ((2 ^ b : Nat) : Int) % 2 = 1) := by
  have := bits_tab ⟨d.toNat, by omega⟩ ⟨b, hb⟩
  simpa [Int.toNat_of_nonneg h1] using this
/-- The cells of a closure: the bit of a weekday, whether it is a holiday, the minute. -/
def Clo (w : World) (g1 g2 g3 : Nat) (wb : Int) (hol : Bool) (m : Int) : Prop := Blk w g1 3 #[.int .i64 wb] ∧ Blk w g2 4 #[.bool hol] ∧ Blk w g3 3 #[.int .i64 m]
theorem Clo.below {w w' : World} {g1 g2 g3 : Nat} {wb : Int} {hol : Bool} {m : Int} (h : Clo w g1 g2 g3 wb hol m) (hb : Below w.heap.size w w') : Clo w' g1 g2 g3 wb hol m :=
  ⟨h.1.below hb h.1.lt, h.2.1.below hb h.2.1.lt, h.2.2.below hb h.2.2.lt⟩
theorem inS_is {bit : Nat} {d f t m : Int} {x : Int} {v1 v2 v3 : Bool} (h1 : 0 ≤ d) (h2 : d ≤ 255) (hb : bit < 8) (hx : bits BinOp.and .i64 d ((2 ^ bit : Nat) : Int) = x) (e1 : (x != 0) = v1) (e2 : decide (f ≤ m) = v2) (e3 : decide (m < t) = v3) :
    inS bit m (d, f, t) = (v1 && (v2 && v3)) := by
  have := bits_at h1 h2 hb
  rw [hx, e1] at this
  unfold inS
  rw [this, ← e2, ← e3]
  simp only [Bool.decide_and]
set_option maxHeartbeats 2000000 in
theorem clS_any (d f t m : Int) (bit wd : Nat) (hol : Bool) (g1 g2 g3 : Nat) (W : World) (h1 : 0 ≤ d) (h2 : d ≤ 255) (hw : wd < 8) (hbit : bit = if hol then 7 else wd) (hC : Clo W g1 g2 g3 ((2 ^ wd : Nat) : Int) hol m) :
    Calls Try.prog 76 #[.agg #[.int .i64 d, .int .i64 f, .int .i64 t], .pointer (some ⟨g1, 0, none⟩), .pointer (some ⟨g2, 0, none⟩), .pointer (some ⟨g3, 0, none⟩)] W fun e w' => e = .returned (.bool (inS bit m (d, f, t))) ∧ Below W.heap.size W w' := by
  obtain ⟨k1, k2, k3⟩ := hC
  have c1 := (k1.alloc (.cells #[.int .i64 d, .int .i64 f, .int .i64 t] 88)).cell 0
  have c2 := (k2.alloc (.cells #[.int .i64 d, .int .i64 f, .int .i64 t] 88)).cell 0
  have c3 := (k3.alloc (.cells #[.int .i64 d, .int .i64 f, .int .i64 t] 88)).cell 0
  have hb8 : bit < 8 := by rw [hbit]; split <;> omega
  obtain ⟨x, hx⟩ : ∃ x, bits BinOp.and .i64 d ((2 ^ bit : Nat) : Int) = x := ⟨_, rfl⟩
  have HX := Lib.hid (fun v1 v2 v3 => inS_is (f := f) (t := t) (m := m) (v1 := v1) (v2 := v2) (v3 := v3) h1 h2 hb8 hx)
  clear k1 k2 k3 hb8
  cases hol
  all_goals
    simp only [if_true, if_false, Bool.false_eq_true] at hbit
    subst hbit
  · obtain ⟨b, hb⟩ : ∃ b, ((2 ^ bit : Nat) : Int) = b := ⟨_, rfl⟩
    rw [hb] at c1 hx
    clear hb
    cases e1 : (x != 0) <;> cases e2 : decide (f ≤ m) <;> cases e3 : decide (m < t)
    all_goals
      have HV := Lib.hid (HX.out _ _ _ e1 e2 e3)
      go_enter Try.func76, Try.ntmps76
      go_wp2
      go_ret
      exact ⟨ret_bool (by rw [HV.out]; rfl), (Below.refl _ _).alloc (Nat.le_refl _) _⟩
  · rw [show ((2 ^ 7 : Nat) : Int) = 128 from rfl] at hx
    clear hw
    cases e1 : (x != 0) <;> cases e2 : decide (f ≤ m) <;> cases e3 : decide (m < t)
    all_goals
      have HV := Lib.hid (HX.out _ _ _ e1 e2 e3)
      go_enter Try.func76, Try.ntmps76
      go_wp2
      go_ret
      exact ⟨ret_bool (by rw [HV.out]; rfl), (Below.refl _ _).alloc (Nat.le_refl _) _⟩
theorem clS_is (d f t m : Int) (v : Bool) (bit wd : Nat) (hol : Bool) (g1 g2 g3 : Nat) (hv : inS bit m (d, f, t) = v) (h1 : 0 ≤ d) (h2 : d ≤ 255) (hw : wd < 8) (hbit : bit = if hol then 7 else wd) (W : World) (hC : Clo W g1 g2 g3 ((2 ^ wd : Nat) : Int) hol m) :
    Calls Try.prog 76 #[.agg #[.int .i64 d, .int .i64 f, .int .i64 t], .pointer (some ⟨g1, 0, none⟩), .pointer (some ⟨g2, 0, none⟩), .pointer (some ⟨g3, 0, none⟩)] W fun e w' => e = .returned (.bool v) ∧ Below W.heap.size W w' := by
  subst hv; exact clS_any d f t m bit wd hol g1 g2 g3 W h1 h2 hw hbit hC
theorem sl_any_no {l : List Sl} {p : Sl → Bool} (h : ∀ j, j < l.length → p (l.getD j sl0) = false) : l.any p = false := by
  rw [List.any_eq_false]
  intro x hx
  obtain ⟨j, hj, rfl⟩ := List.mem_iff_getElem.1 hx
  have := h j hj
  simpa [List.getD, List.getElem?_eq_getElem hj] using this
theorem sl_any_yes {l : List Sl} {p : Sl → Bool} {j : Nat} (hj : j < l.length) (h : p (l.getD j sl0) = true) : l.any p = true := by
  rw [List.any_eq_true]
  exact ⟨l.getD j sl0, by simp [List.getD, List.getElem?_eq_getElem hj], h⟩
theorem sl_at {l : List Sl} (h : ∀ s ∈ l, okS s = true) {j : Nat} (hj : j < l.length) {d f t : Int} (hp : l.getD j sl0 = (d, f, t)) : 0 ≤ d ∧ d ≤ 255 ∧ 0 ≤ f ∧ f < t ∧ t ≤ 1440 := by
  have h1 : l.getD j sl0 ∈ l := by simp [List.getD, List.getElem?_eq_getElem hj]
  have h2 := okS_iff.1 (h _ h1)
  rw [hp] at h2
  simp only at h2
  omega
set_option maxHeartbeats 4000000 in
theorem indexS_any (A : Option Addr) (n c : Nat) (l : List Sl) (m : Int) (bit wd : Nat) (hol : Bool) (g1 g2 g3 : Nat) (w : World) (hA : SlR w A l) (hn : l.length = n) (hc : n ≤ c) (hm : c ≤ maxLen) (hok : ∀ s ∈ l, okS s = true) (hw : wd < 8) (hbit : bit = if hol then 7 else wd) (hC : Clo w g1 g2 g3 ((2 ^ wd : Nat) : Int) hol m) :
    Calls Try.prog 94 #[.slice A n c, .func (.func 76) #[] #[.pointer (some ⟨g1, 0, none⟩), .pointer (some ⟨g2, 0, none⟩), .pointer (some ⟨g3, 0, none⟩)]] w fun e w' => (∃ v : Int, e = .returned (.int .i64 v) ∧ decide (0 ≤ v) = l.any (inS bit m)) ∧ Below w.heap.size w w' := by
  unfold maxLen at hm
  have HA := Lib.hid hA; have HN := Lib.hid hn; have HC := Lib.hid hC; have HK := Lib.hid hok; have HW := Lib.hid hw; have HB := Lib.hid hbit
  clear hA hn hC hok hw hbit
  go_enter Try.func94, Try.ntmps94
  go_wp2_with fail
  go_loopw [8] (fun iv wr => ∃ k : Nat, iv = .int .i64 k ∧ k ≤ n ∧ Below w.heap.size w wr ∧ Hid (∀ j, j < k → inS bit m (l.getD j sl0) = false)) (fun iv _ => n - (intOf iv).toNat)
  case atStart => exact ⟨0, rfl, by omega, Below.refl _ _, Lib.hid fun j h => absurd h (Nat.not_lt_zero j)⟩
  case round =>
    obtain ⟨k, rfl, hk, hb, HO⟩ := hrel
    have hs := hb.size
    by_cases hlt : k < n
    · have hkl : k < l.length := by rw [HN.out]; exact hlt
      obtain ⟨bk, off, rfl, hbl, g0, g4, g5⟩ := HA.out k hkl
      have e0 := (hb.cell (p := ⟨bk, off + k * 3, none⟩) hbl).trans g0
      have e1 := (hb.cell (p := ⟨bk, off + k * 3 + 1, none⟩) hbl).trans g4
      have e2 := (hb.cell (p := ⟨bk, off + k * 3 + 2, none⟩) hbl).trans g5
      have hlt' : (k : Int) < (n : Int) := by omega
      obtain ⟨⟨d, f, t⟩, hp⟩ : ∃ p, l.getD k sl0 = p := ⟨_, rfl⟩
      rw [hp] at e0 e1 e2
      simp only at e0 e1 e2
      have hd := sl_at HK.out hkl hp
      clear g0 g4 g5
      cases hv : inS bit m (d, f, t)
      · have HC1 := Lib.hid (clS_is d f t m _ bit wd hol g1 g2 g3 hv hd.1 hd.2.1 HW.out HB.out wr (HC.out.below hb))
        have HO2 : Hid (∀ j, j < k + 1 → inS bit m (l.getD j sl0) = false) := Lib.hid fun j h => by
          rcases Nat.lt_or_ge j k with h | h
          · exact HO.out j h
          · obtain rfl : j = k := by omega
            rw [hp]; exact hv
        clear hp hv HO hd hkl
        go_wp2_with (go_at_call 76; (with_reducible refine HC1.out.mono ?_); rintro e w1 ⟨rfl, hb1⟩; have hb2 := hb.trans (hb1.mono hs))
        go_roundw
        case rel => exact ⟨k + 1, by go_num, by omega, hb2, HO2⟩
        case measure => simp [intOf]; omega
      · have HC1 := Lib.hid (clS_is d f t m _ bit wd hol g1 g2 g3 hv hd.1 hd.2.1 HW.out HB.out wr (HC.out.below hb))
        have HR := Lib.hid (sl_any_yes (p := inS bit m) hkl (by rw [hp]; exact hv))
        clear hp hv HO hd hkl
        go_wp2_with (go_at_call 76; (with_reducible refine HC1.out.mono ?_); rintro e w1 ⟨rfl, hb1⟩; have hb2 := hb.trans (hb1.mono hs))
        go_ret
        exact ⟨⟨k, rfl, by rw [HR.out]; exact decide_eq_true (by omega)⟩, hb2⟩
    · obtain rfl : k = n := by omega
      have HR := Lib.hid (sl_any_no (p := inS bit m) (fun j hj => HO.out j (by rwa [HN.out] at hj)))
      clear HO
      go_wp2_with fail
      go_ret
      exact ⟨⟨-1, rfl, by rw [HR.out]; rfl⟩, hb⟩
set_option maxHeartbeats 1000000 in
theorem containsS_is (A : Option Addr) (n c : Nat) (l : List Sl) (m : Int) (bit wd : Nat) (hol : Bool) (g1 g2 g3 : Nat) (w : World) (hA : SlR w A l) (hn : l.length = n) (hc : n ≤ c) (hm : c ≤ maxLen) (hok : ∀ s ∈ l, okS s = true) (hw : wd < 8) (hbit : bit = if hol then 7 else wd) (hC : Clo w g1 g2 g3 ((2 ^ wd : Nat) : Int) hol m)
    (v : Bool) (hv : l.any (inS bit m) = v) :
    Calls Try.prog 77 #[.slice A n c, .func (.func 76) #[] #[.pointer (some ⟨g1, 0, none⟩), .pointer (some ⟨g2, 0, none⟩), .pointer (some ⟨g3, 0, none⟩)]] w fun e w' => e = .returned (.bool v) ∧ Below w.heap.size w w' := by
  have H := Lib.hid (indexS_any A n c l m bit wd hol g1 g2 g3 w hA hn hc hm hok hw hbit hC)
  rw [hv] at H
  clear hA hn hC hok hw hbit hv
  go_enter Try.func77, Try.ntmps77
  go_wp2_with (go_at_call 94; (with_reducible refine H.out.mono ?_); rintro e w1 ⟨⟨v1, rfl, hv1⟩, hb⟩)
  go_ret
  exact ⟨rfl, hb⟩
/-- Whether a day is a holiday. -/
theorem con_no {l : List Int} {x : Int} (h : ∀ j, j < l.length → (x == l.getD j 0) = false) : l.contains x = false := by
  rw [Bool.eq_false_iff]
  intro hc
  obtain ⟨j, hj, he⟩ := List.mem_iff_getElem.1 (List.contains_iff_mem.1 hc)
  have := h j hj
  simp [List.getD, List.getElem?_eq_getElem hj, he] at this
theorem con_yes {l : List Int} {x : Int} {j : Nat} (hj : j < l.length) (h : (x == l.getD j 0) = true) : l.contains x = true := by
  rw [List.contains_iff_mem]
  have : x = l.getD j 0 := by simpa using h
  rw [this]
  simp [List.getD, List.getElem?_eq_getElem hj]
set_option maxHeartbeats 2000000 in
theorem indexI_any (A : Option Addr) (n c : Nat) (l : List Int) (x : Int) (w : World) (hA : IR w A l) (hn : l.length = n) (hc : n ≤ c) (hm : c ≤ maxLen) :
    Calls Try.prog 92 #[.slice A n c, .int .i64 x] w fun e w' => (∃ v : Int, e = .returned (.int .i64 v) ∧ decide (0 ≤ v) = l.contains x) ∧ Below w.heap.size w w' := by
  unfold maxLen at hm
  have HA := Lib.hid hA; have HN := Lib.hid hn
  clear hA hn
  go_enter Try.func92, Try.ntmps92
  go_wp2_with fail
  go_loopw [8] (fun iv wr => ∃ k : Nat, iv = .int .i64 k ∧ k ≤ n ∧ wr = w ∧ Hid (∀ j, j < k → (x == l.getD j 0) = false)) (fun iv _ => n - (intOf iv).toNat)
  case atStart => exact ⟨0, rfl, by omega, rfl, Lib.hid fun j h => absurd h (Nat.not_lt_zero j)⟩
  case round =>
    obtain ⟨k, rfl, hk, rfl, HO⟩ := hrel
    by_cases hlt : k < n
    · have hkl : k < l.length := by rw [HN.out]; exact hlt
      obtain ⟨bk, off, rfl, hbl, e0⟩ := HA.out k hkl
      have hlt' : (k : Int) < (n : Int) := by omega
      obtain ⟨y, hp⟩ : ∃ p, l.getD k 0 = p := ⟨_, rfl⟩
      rw [hp] at e0
      cases hv : (x == y)
      · have HO2 : Hid (∀ j, j < k + 1 → (x == l.getD j 0) = false) := Lib.hid fun j h => by
          rcases Nat.lt_or_ge j k with h | h
          · exact HO.out j h
          · obtain rfl : j = k := by omega
            rw [hp]; exact hv
        clear hp HO hkl
        go_wp2_with fail
        go_roundw
        case rel => exact ⟨k + 1, by go_num, by omega, trivial, HO2⟩
        case measure => simp [intOf]; omega
      · have HR := Lib.hid (con_yes hkl (by rw [hp]; exact hv))
        clear hp HO hkl
        go_wp2_with fail
        go_ret
        exact ⟨⟨k, rfl, by rw [HR.out]; exact decide_eq_true (by omega)⟩, Below.refl _ _⟩
    · obtain rfl : k = n := by omega
      have HR := Lib.hid (con_no (fun j hj => HO.out j (by rwa [HN.out] at hj)))
      clear HO
      go_wp2_with fail
      go_ret
      exact ⟨⟨-1, rfl, by rw [HR.out]; rfl⟩, Below.refl _ _⟩
set_option maxHeartbeats 1000000 in
theorem containsI_is (A : Option Addr) (n c : Nat) (l : List Int) (x : Int) (w : World) (hA : IR w A l) (hn : l.length = n) (hc : n ≤ c) (hm : c ≤ maxLen) (v : Bool) (hv : l.contains x = v) :
    Calls Try.prog 74 #[.slice A n c, .int .i64 x] w fun e w' => e = .returned (.bool v) ∧ Below w.heap.size w w' := by
  have H := Lib.hid (indexI_any A n c l x w hA hn hc hm)
  rw [hv] at H
  clear hA hn hv
  go_enter Try.func74, Try.ntmps74
  go_wp2_with (go_at_call 92; (with_reducible refine H.out.mono ?_); rintro e w1 ⟨⟨v1, rfl, hv1⟩, hb⟩)
  go_ret
  exact ⟨rfl, hb⟩
set_option maxHeartbeats 1000000 in
theorem weekdayN (d : Int) (w : World) (h1 : 0 ≤ d) (h2 : d < 146097) : Calls Try.prog 75 #[.int .i64 d] w fun e w' => e = .returned (.int .i64 ((d + 5) % 7)) ∧ w = w' := by
  have d1 : decide (0 ≤ d) = true := decide_eq_true h1
  have d2 : decide (d < 146097) = true := decide_eq_true h2
  go_enter Try.func75, Try.ntmps75
  go_wp2
  go_ret
  exact ⟨rfl, rfl⟩
set_option maxHeartbeats 1000000 in
theorem refWeekdayN (d : Int) (w : World) (h1 : 0 ≤ d) (h2 : d < 146097) : Calls Try.prog 95 #[.int .i64 d] w fun e w' => e = .returned (.int .i64 ((d + 5) % 7)) ∧ w = w' := by
  have d1 : decide (d < 0) = false := decide_eq_false (by omega)
  have d2 : decide (146097 ≤ d) = false := decide_eq_false (by omega)
  go_enter Try.func95, Try.ntmps95
  go_wp2
  go_ret
  exact ⟨rfl, rfl⟩
end Go.Proofs.Ytpbohnlfiaigjaa
