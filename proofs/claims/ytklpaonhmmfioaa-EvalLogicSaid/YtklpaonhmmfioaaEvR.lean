/- Walks of the reference's small functions. -/
import Derived.Test.YtklpaonhmmfioaaEvI
import Derived.Test.YtklpaonhmmfioaaCkN
namespace Go.Proofs.Ytklpaonhmmfioaa.Ck
open Go Go.Lib Go.RowKit Go.Proofs.Ytklpaonhmmfioaa

set_option maxRecDepth 100000 in
set_option maxHeartbeats 8000000 in
theorem refAttN_any (v : En) (s : ByteArray) (n : Int) (h : attN v s = n) (w : World) : Calls Try.prog 39 #[.string s, .agg #[.int .i64 v.a0, .int .i64 v.a1, .int .i64 v.a2, .int .i64 v.a3, .int .i64 v.a4, .int .i64 v.a5, .string v.zn, .string v.bn, .bool v.fm]] w fun e w' => e = .returned (.int .i64 n) ∧ Below w.heap.size w w' := by
  subst h
  have HB := Lib.hid (below_one w (.cells #[.int .i64 v.a0, .int .i64 v.a1, .int .i64 v.a2, .int .i64 v.a3, .int .i64 v.a4, .int .i64 v.a5, .string v.zn, .string v.bn, .bool v.fm] 26))
  obtain ⟨c0, c1, c2, c3, c4, c5, c6, c7, c8⟩ := nine (Blk.new w 26 #[.int .i64 v.a0, .int .i64 v.a1, .int .i64 v.a2, .int .i64 v.a3, .int .i64 v.a4, .int .i64 v.a5, .string v.zn, .string v.bn, .bool v.fm])
  unfold attN isT
  cases h0 : (s.toList == [107, 105, 110, 100])
  case true =>
    go_enter Try.func39, Try.ntmps39
    go_wp2_with fail
    go_ret
    exact ⟨rfl, HB.out⟩
  cases h1 : (s.toList == [117, 110, 105, 116, 115])
  case true =>
    go_enter Try.func39, Try.ntmps39
    go_wp2_with fail
    go_ret
    exact ⟨rfl, HB.out⟩
  cases h2 : (s.toList == [119, 101, 101, 107, 100, 97, 121])
  case true =>
    go_enter Try.func39, Try.ntmps39
    go_wp2_with fail
    go_ret
    exact ⟨rfl, HB.out⟩
  cases h3 : (s.toList == [109, 105, 110, 117, 116, 101])
  case true =>
    go_enter Try.func39, Try.ntmps39
    go_wp2_with fail
    go_ret
    exact ⟨rfl, HB.out⟩
  cases h4 : (s.toList == [116, 111, 116, 97, 108])
  all_goals
    go_enter Try.func39, Try.ntmps39
    go_wp2_with fail
    go_ret
    exact ⟨rfl, HB.out⟩
set_option maxRecDepth 100000 in
set_option maxHeartbeats 8000000 in
theorem refText_is {v : En} {op num : Int} {tx : ByteArray} {args : List Ex} {t : ByteArray} (h : txtV v (.mk op num tx args) = t) (A : Option Addr) (n c : Nat) (w : World) :
    Calls Try.prog 29 #[.agg #[.int .i64 op, .int .i64 num, .string tx, .slice A n c], .agg #[.int .i64 v.a0, .int .i64 v.a1, .int .i64 v.a2, .int .i64 v.a3, .int .i64 v.a4, .int .i64 v.a5, .string v.zn, .string v.bn, .bool v.fm]] w fun e w' => e = .returned (.string t) ∧ Below w.heap.size w w' := by
  subst h
  have HB1 := below_one w (.cells #[.int .i64 op, .int .i64 num, .string tx, .slice A n c] 24)
  have HBK := (Blk.new w 24 #[.int .i64 op, .int .i64 num, .string tx, .slice A n c]).alloc (.cells #[.int .i64 v.a0, .int .i64 v.a1, .int .i64 v.a2, .int .i64 v.a3, .int .i64 v.a4, .int .i64 v.a5, .string v.zn, .string v.bn, .bool v.fm] 26)
  obtain ⟨c0, c1, c2, c3⟩ := four HBK
  have HEK := (Blk.new (w.alloc (.cells #[.int .i64 op, .int .i64 num, .string tx, .slice A n c] 24)) 26 #[.int .i64 v.a0, .int .i64 v.a1, .int .i64 v.a2, .int .i64 v.a3, .int .i64 v.a4, .int .i64 v.a5, .string v.zn, .string v.bn, .bool v.fm])
  rw [show (w.alloc (.cells #[.int .i64 op, .int .i64 num, .string tx, .slice A n c] 24)).heap.size = w.heap.size + 1 by simp] at HEK
  obtain ⟨d0, d1, d2, d3, d4, d5, d6, d7, d8⟩ := nine HEK
  have HB := Lib.hid (HB1.alloc (by simp) (.cells #[.int .i64 v.a0, .int .i64 v.a1, .int .i64 v.a2, .int .i64 v.a3, .int .i64 v.a4, .int .i64 v.a5, .string v.zn, .string v.bn, .bool v.fm] 26))
  clear HB1 HBK HEK
  unfold txtV isT
  by_cases hop : op = 2
  · subst hop
    go_enter Try.func29, Try.ntmps29
    go_wp2_with fail
    go_ret
    exact ⟨rfl, HB.out⟩
  have h0 : (op == 2) = false := by simpa using hop
  have HE := Lib.hid hop
  clear hop
  cases h1 : (tx.toList == [122, 111, 110, 101])
  all_goals
    go_enter Try.func29, Try.ntmps29
    go_wp2_with fail
    go_ret
    exact ⟨by first | rfl | (rw [if_neg HE.out]; rfl), HB.out⟩
theorem refWithin_is {n m : Int} {b : Bool} (h : OV (nb n) m b) (w : World) : Calls Try.prog 38 #[.int .i64 n, .bool true] w fun e w' => e = .returned (.tuple #[.int .i64 m, .bool b]) ∧ w' = w := by
  cases h1 : decide (n < -4611686018427387904)
  · cases h2 : decide (4611686018427387904 < n)
    · have h3 : nb n = some n := by unfold nb; rw [if_pos ⟨by have := of_decide_eq_false h1; omega, by have := of_decide_eq_false h2; omega⟩]
      rw [h3] at h
      obtain ⟨rfl, rfl⟩ : m = n ∧ b = true := ⟨h.1, h.2⟩
      clear h h3
      go_enter Try.func38, Try.ntmps38
      go_wp2_with fail
      go_ret2
      exact ⟨rfl, rfl⟩
    · have h3 : nb n = none := by unfold nb; rw [if_neg (by have := of_decide_eq_true h2; omega)]
      rw [h3] at h
      obtain ⟨rfl, rfl⟩ : m = 0 ∧ b = false := ⟨h.1, h.2⟩
      clear h h3
      go_enter Try.func38, Try.ntmps38
      go_wp2_with fail
      go_ret2
      exact ⟨rfl, rfl⟩
  · have h3 : nb n = none := by unfold nb; rw [if_neg (by have := of_decide_eq_true h1; omega)]
    rw [h3] at h
    obtain ⟨rfl, rfl⟩ : m = 0 ∧ b = false := ⟨h.1, h.2⟩
    clear h h3
    go_enter Try.func38, Try.ntmps38
    go_wp2_with fail
    go_ret2
    exact ⟨rfl, rfl⟩
set_option maxRecDepth 100000 in
set_option maxHeartbeats 8000000 in
theorem refAdd_is {a b m : Int} {h : Bool} (ho : OV (nb (a + b)) m h) (ha : -4611686018427387904 ≤ a ∧ a ≤ 4611686018427387904) (hb : -4611686018427387904 ≤ b ∧ b ≤ 4611686018427387904) (w : World) :
    Calls Try.prog 40 #[.int .i64 a, .int .i64 b] w fun e w' => e = .returned (.tuple #[.int .i64 m, .bool h]) ∧ w' = w := by
  obtain ⟨ha0, ha1⟩ := ha
  obtain ⟨hb0, hb1⟩ := hb
  by_cases h1 : 4611686018427387904 - b < a
  · have h3 : nb (a + b) = none := by unfold nb; rw [if_neg (by omega)]
    rw [h3] at ho
    obtain ⟨rfl, rfl⟩ : m = 0 ∧ h = false := ⟨ho.1, ho.2⟩
    have d0 : decide (0 < b) = true := decide_eq_true (by omega)
    have d1 := decide_eq_true h1
    clear ho h3
    go_enter Try.func40, Try.ntmps40
    go_wp2_with fail
    go_ret2
    exact ⟨rfl, rfl⟩
  by_cases h2 : a < -4611686018427387904 - b
  · have h3 : nb (a + b) = none := by unfold nb; rw [if_neg (by omega)]
    rw [h3] at ho
    obtain ⟨rfl, rfl⟩ : m = 0 ∧ h = false := ⟨ho.1, ho.2⟩
    have d0 : decide (0 < b) = false := decide_eq_false (by omega)
    have d2 : decide (b < 0) = true := decide_eq_true (by omega)
    have d1 := decide_eq_true h2
    clear ho h3
    go_enter Try.func40, Try.ntmps40
    go_wp2_with fail
    go_ret2
    exact ⟨rfl, rfl⟩
  have h3 : nb (a + b) = some (a + b) := by unfold nb; rw [if_pos (by omega)]
  rw [h3] at ho
  obtain ⟨rfl, rfl⟩ : m = a + b ∧ h = true := ⟨ho.1, ho.2⟩
  have d1 := decide_eq_false h1
  have d2 := decide_eq_false h2
  have b1 : -4611686018427387904 ≤ a + b := by omega
  have b2 : a + b ≤ 4611686018427387904 := by omega
  clear ho h3
  by_cases d0 : 0 < b
  · have d3 := decide_eq_true d0
    go_enter Try.func40, Try.ntmps40
    go_wp2_with fail
    go_ret2
    exact ⟨rfl, rfl⟩
  · have d3 := decide_eq_false d0
    by_cases d4 : b < 0
    · have d5 := decide_eq_true d4
      go_enter Try.func40, Try.ntmps40
      go_wp2_with fail
      go_ret2
      exact ⟨rfl, rfl⟩
    · have d5 := decide_eq_false d4
      go_enter Try.func40, Try.ntmps40
      go_wp2_with fail
      go_ret2
      exact ⟨rfl, rfl⟩
theorem refSize_is {n m : Int} (h : max n (-n) = m) (hb : -4611686018427387904 ≤ n ∧ n ≤ 4611686018427387904) (w : World) : Calls Try.prog 54 #[.int .i64 n] w fun e w' => e = .returned (.int .i64 m) ∧ w' = w := by
  obtain ⟨hb0, hb1⟩ := hb
  by_cases h0 : n < 0
  · obtain rfl : m = -n := by omega
    have d := decide_eq_true h0
    clear h
    go_enter Try.func54, Try.ntmps54
    go_wp2_with fail
    go_ret
    exact ⟨rfl, rfl⟩
  · obtain rfl : m = n := by omega
    have d := decide_eq_false h0
    clear h
    go_enter Try.func54, Try.ntmps54
    go_wp2_with fail
    go_ret
    exact ⟨rfl, rfl⟩
set_option maxRecDepth 100000 in
set_option maxHeartbeats 8000000 in
theorem refMul_is {a b m : Int} {h : Bool} (ho : OV (nb (a * b)) m h) (ha : -4611686018427387904 ≤ a ∧ a ≤ 4611686018427387904) (hb : -4611686018427387904 ≤ b ∧ b ≤ 4611686018427387904) (w : World) :
    Calls Try.prog 41 #[.int .i64 a, .int .i64 b] w fun e w' => e = .returned (.tuple #[.int .i64 m, .bool h]) ∧ w' = w := by
  by_cases h0 : a = 0
  · subst h0
    rw [Int.zero_mul] at ho
    obtain ⟨rfl, rfl⟩ : m = 0 ∧ h = true := ⟨ho.1, ho.2⟩
    clear ho
    go_enter Try.func41, Try.ntmps41
    go_wp2_with fail
    go_ret2
    exact ⟨by simp, rfl⟩
  have d0 : (a != 0) = true := by simpa using h0
  obtain ⟨sa, hsa⟩ : ∃ x, max a (-a) = x := ⟨_, rfl⟩
  obtain ⟨sb, hsb⟩ : ∃ x, max b (-b) = x := ⟨_, rfl⟩
  have HA := Lib.hid (fun W => refSize_is hsa ha W)
  have HB := Lib.hid (fun W => refSize_is hsb hb W)
  have hs1 : 0 < sa := by omega
  have hs2 : sa ≤ 4611686018427387904 := by omega
  have hs3 : 0 ≤ sb := by omega
  have hs4 : sb ≤ 4611686018427387904 := by omega
  have hz : (sa == 0) = false := by simp; omega
  have hq : (4611686018427387904 : Int).tdiv sa = 4611686018427387904 / sa := Int.tdiv_eq_ediv_of_nonneg (by decide)
  by_cases hv : (4611686018427387904 : Int) / sa < sb
  · rw [mul_big h0 (by rw [hsa, hsb, hq]; exact hv)] at ho
    obtain ⟨rfl, rfl⟩ : m = 0 ∧ h = false := ⟨ho.1, ho.2⟩
    have dv := decide_eq_true hv
    clear ho hq hsa hsb ha hb
    go_enter Try.func41, Try.ntmps41
    go_wp2_with (first
      | (go_at_call 54; (with_reducible refine (HA.out _).mono ?_); rintro e w1 ⟨rfl, rfl⟩)
      | (go_at_call 54; (with_reducible refine (HB.out _).mono ?_); rintro e w1 ⟨rfl, rfl⟩))
    go_ret2
    exact ⟨rfl, rfl⟩
  · obtain ⟨hf, hl, hu⟩ := mul_fit (a := a) (b := b) (.inr (by rw [hsa, hsb, hq]; exact hv))
    rw [hf] at ho
    obtain ⟨rfl, rfl⟩ : m = wrap64 (a * b) ∧ h = true := ⟨by rw [IntWalk.wrap64_in _ ⟨by omega, by omega⟩]; exact ho.1, ho.2⟩
    have dv := decide_eq_false hv
    clear ho hf hq hsa hsb
    obtain ⟨ha0, ha1⟩ := ha
    obtain ⟨hb0, hb1⟩ := hb
    go_enter Try.func41, Try.ntmps41
    go_wp2_with (first
      | (go_at_call 54; (with_reducible refine (HA.out _).mono ?_); rintro e w1 ⟨rfl, rfl⟩)
      | (go_at_call 54; (with_reducible refine (HB.out _).mono ?_); rintro e w1 ⟨rfl, rfl⟩))
    go_ret2
    exact ⟨by first | rfl | (rw [IntWalk.wrap64_in _ ⟨by omega, by omega⟩]; rfl), rfl⟩
theorem compared_is {op o : Int} {b : Bool} (h : agr op o = b) (hop : op = 7 ∨ op = 8 ∨ op = 9 ∨ op = 10) (w : World) : Calls Try.prog 57 #[.int .i64 op, .int .i64 o] w fun e w' => e = .returned (.bool b) ∧ w' = w := by
  subst h
  rcases hop with rfl | rfl | rfl | rfl
  · have HR : Hid (agr 7 o = (o == 0)) := Lib.hid (show decide (o = 0) = (o == 0) by by_cases h : o = 0 <;> simp [h])
    go_enter Try.func57, Try.ntmps57
    go_wp2
    go_ret
    exact ⟨ret_b HR.out.symm, rfl⟩
  · have HR : Hid (agr 8 o = (o != 0)) := Lib.hid (show decide (o ≠ 0) = (o != 0) by by_cases h : o = 0 <;> simp [h])
    go_enter Try.func57, Try.ntmps57
    go_wp2
    go_ret
    exact ⟨ret_b HR.out.symm, rfl⟩
  · have HR : Hid (agr 9 o = decide (o < 0)) := Lib.hid (by unfold agr; rw [if_neg (by decide), if_neg (by decide), if_pos rfl])
    go_enter Try.func57, Try.ntmps57
    go_wp2
    go_ret
    exact ⟨ret_b HR.out.symm, rfl⟩
  · have HR : Hid (agr 10 o = decide (o ≤ 0)) := Lib.hid (by unfold agr; rw [if_neg (by decide), if_neg (by decide), if_neg (by decide)])
    go_enter Try.func57, Try.ntmps57
    go_wp2
    go_ret
    exact ⟨ret_b HR.out.symm, rfl⟩
end Go.Proofs.Ytklpaonhmmfioaa.Ck
