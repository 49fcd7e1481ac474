/- Walks: PutDecimal and Decimal, of the program. -/
import Derived.Test.YtblhpbheejemnaaPkV
namespace Go.Proofs.Ytblhpbheejemnaa
open Go.RowKit

/-- Whether a number has a packed form of a size. -/
def fitB (n size : Int) : Bool := decide (1 ≤ size) && decide (size ≤ 9) && decide (0 ≤ n) && decide (n < 100 ^ size.toNat)
theorem fit_iff {n size : Int} : fitB n size = true ↔ 1 ≤ size ∧ size ≤ 9 ∧ 0 ≤ n ∧ n < 100 ^ size.toNat := by
  simp [fitB, Bool.and_eq_true, and_assoc]
/-- What PutDecimal gives. -/
def PutOut (w : World) (l : List Int) (n size : Int) (e : Ending) (w' : World) : Prop :=
  ∃ v, e = .returned (.tuple #[v, .int .i64 (if fitB n size = true then 0 else 6)]) ∧ Own w' w.heap.size v (if fitB n size = true then l ++ pdL n.toNat size.toNat else []) ∧ Below w.heap.size w w'
set_option maxRecDepth 100000 in
set_option maxHeartbeats 4000000 in
theorem put_any (A : Option Addr) (m c : Nat) (l : List Int) (n size : Int) (w : World) (hA : Byt w A m c l) (h6 : m ≤ 1000) (hn1 : -9223372036854775808 ≤ n) (hn2 : n ≤ 9223372036854775807) :
    Calls Try.prog 9 #[.slice A m c, .int .i64 n, .int .i64 size] w (PutOut w l n size) := by
  have hcap := hA.cap
  have hno : ∀ (h : fitB n size = false) (w' : World), Below w.heap.size w w' → PutOut w l n size (.returned (.tuple #[.slice none 0 0, .int .i64 6])) w' := fun h w' hb => ⟨_, by rw [h]; rfl, by rw [h]; exact own_none _ _, hb⟩
  have HNO := Lib.hid hno
  by_cases s1 : 1 ≤ size
  · have d1 : decide (size < 1) = false := decide_eq_false (by omega)
    by_cases s9 : size ≤ 9
    · have d9 : decide (9 < size) = false := decide_eq_false (by omega)
      obtain ⟨k, rfl⟩ := Int.eq_ofNat_of_zero_le (show 0 ≤ size by omega)
      have HG := Lib.hid (greatest_any k (by omega))
      obtain ⟨p, hp⟩ : ∃ p : Nat, 100 ^ k = p := ⟨_, rfl⟩
      have hp1 : 1 ≤ p := by rw [← hp]; exact Nat.pos_of_ne_zero (by simp)
      have hp2 : p ≤ 1000000000000000000 := by
        rw [← hp]
        have := Nat.pow_le_pow_right (n := 100) (by decide) (show k ≤ 9 by omega)
        rwa [show (100 : Nat) ^ 9 = 1000000000000000000 by decide] at this
      rw [hp] at HG
      have hpi : (100 : Int) ^ (k : Int).toNat = (p : Int) := by rw [← hp]; simp
      by_cases n0 : 0 ≤ n
      · have e0 : decide (n < 0) = false := decide_eq_false (by omega)
        obtain ⟨N, rfl⟩ := Int.eq_ofNat_of_zero_le n0
        by_cases np : N < p
        · have ep : decide ((p : Int) - 1 < (N : Int)) = false := decide_eq_false (by omega)
          have hf : fitB (N : Int) (k : Int) = true := fit_iff.2 ⟨by omega, by omega, by omega, by rw [hpi]; omega⟩
          have HF := Lib.hid hf
          have HAD := Lib.hid (appDec_any (.slice A m m) w.heap.size m N k l w (apt_has hA.full.has) hA.ran (by omega) (by omega) (by omega) (by omega) (Nat.le_refl _))
          have hg := Lib.hid hA
          clear hA hno hp hpi hf np n0 s1 s9
          go_enter Try.func9, Try.ntmps9
          go_wp2_with (first
            | (go_at_call 22; (with_reducible refine (HG.out _).mono ?_); rintro e w1 ⟨rfl, rfl⟩)
            | (go_at_call 23; (with_reducible refine HAD.out.mono ?_); rintro e w1 ⟨v1, rfl, ho1, hb1⟩))
          go_ret2
          exact ⟨_, by rw [HF.out]; rfl, by rw [HF.out]; exact ho1, hb1⟩
        · have ep : decide ((p : Int) - 1 < (N : Int)) = true := decide_eq_true (by omega)
          have hf : fitB (N : Int) (k : Int) = false := by
            rw [← Bool.not_eq_true]; intro h; obtain ⟨_, _, _, h4⟩ := fit_iff.1 h; rw [hpi] at h4; omega
          have HF := Lib.hid hf
          clear hA hno hp hpi hf np n0 s1 s9
          go_enter Try.func9, Try.ntmps9
          go_wp2_with (go_at_call 22; (with_reducible refine (HG.out _).mono ?_); rintro e w1 ⟨rfl, rfl⟩)
          go_ret2
          exact HNO.out HF.out _ (Below.refl _ _)
      · have e0 : decide (n < 0) = true := decide_eq_true (by omega)
        have hf : fitB n (k : Int) = false := by
          rw [← Bool.not_eq_true]; intro h; obtain ⟨_, _, h3, _⟩ := fit_iff.1 h; omega
        have HF := Lib.hid hf
        clear hA hno hp hpi hf n0 s1 s9
        go_enter Try.func9, Try.ntmps9
        go_wp2_with fail
        go_ret2
        exact HNO.out HF.out _ (Below.refl _ _)
    · have d9 : decide (9 < size) = true := decide_eq_true (by omega)
      have hf : fitB n size = false := by
        rw [← Bool.not_eq_true]; intro h; obtain ⟨_, h2, _⟩ := fit_iff.1 h; omega
      have HF := Lib.hid hf
      clear hA hno hf s1 s9
      go_enter Try.func9, Try.ntmps9
      go_wp2_with fail
      go_ret2
      exact HNO.out HF.out _ (Below.refl _ _)
  · have d1 : decide (size < 1) = true := decide_eq_true (by omega)
    have hf : fitB n size = false := by
      rw [← Bool.not_eq_true]; intro h; obtain ⟨h1, _⟩ := fit_iff.1 h; omega
    have HF := Lib.hid hf
    clear hA hno hf s1
    go_enter Try.func9, Try.ntmps9
    go_wp2_with fail
    go_ret2
    exact HNO.out HF.out _ (Below.refl _ _)
theorem and15 (x : Int) (h0 : 0 ≤ x) (h1 : x ≤ 255) : bits BinOp.and .u8 x 15 = x % 16 := by
  have key : ∀ n : Fin 256, bits BinOp.and IntKind.u8 (n.val : Int) 15 = (n.val : Int) % 16 := by decide +kernel
  have := key ⟨x.toNat, by omega⟩
  simp only at this
  rwa [show ((x.toNat : Nat) : Int) = x by omega] at this
theorem all_no {l : List Int} {k : Nat} {x : Int} (hk : l[k]? = some x) (h : bdB x = false) : l.all bdB = false := by
  rw [← Bool.not_eq_true, List.all_eq_true]
  intro h2
  rw [h2 _ (List.mem_of_getElem? hk)] at h; cases h
theorem bd_more {l : List Int} {k : Nat} {x : Int} (h : ∀ j, j < k → bdB (l.getD j 0) = true) (hg : l.getD k 0 = x) (hx : bdB x = true) : ∀ j, j < k + 1 → bdB (l.getD j 0) = true := fun j hj => by
  rcases Nat.lt_or_ge j k with h1 | h1
  · exact h j h1
  · obtain rfl : j = k := by omega
    rw [hg]; exact hx
theorem de_up {z x : Int} {k : Nat} (h : z < 100 ^ k) (h1 : x / 16 ≤ 9) (h2 : x % 16 ≤ 9) : z * 100 + x / 16 * 10 + x % 16 < 100 ^ (k + 1) := by
  rw [Int.pow_succ]
  generalize (100 : Int) ^ k = P at *
  omega
theorem pow9 {k : Nat} (h : k ≤ 9) : (100 : Int) ^ k ≤ 1000000000000000000 := by
  have := Nat.pow_le_pow_right (n := 100) (by decide) h
  rw [show (100 : Nat) ^ 9 = 1000000000000000000 by decide] at this
  have e : (100 : Int) ^ k = ((100 ^ k : Nat) : Int) := by simp
  rw [e]; omega
theorem take_de {l : List Int} {k : Nat} {x : Int} (hk : l[k]? = some x) : deN (l.take (k + 1)) = deN (l.take k) * 100 + x / 16 * 10 + x % 16 := by
  obtain ⟨h, rfl⟩ := List.getElem?_eq_some_iff.1 hk
  rw [List.take_succ_eq_append_getElem h, de_snoc]
set_option maxRecDepth 100000 in
set_option maxHeartbeats 4000000 in
theorem decimal_any (A : Option Addr) (m c : Nat) (l : List Int) (w : World) (hA : Byt w A m c l) :
    Calls Try.prog 11 #[.slice A m c] w fun e w' => e = .returned (.tuple #[.int .i64 (deL l).1, .int .i64 (deL l).2]) ∧ w = w' := by
  have hm := hA.len
  by_cases m1 : 1 ≤ m
  · have d1 : decide ((m : Int) < 1) = false := decide_eq_false (by omega)
    by_cases m9 : m ≤ 9
    · have d9 : decide (9 < (m : Int)) = false := decide_eq_false (by omega)
      have HL : Hid (deL l = if l.all bdB = true then (deN l, 0) else (0, 1)) := Lib.hid (by unfold deL; rw [if_neg (by omega)])
      have HA := Lib.hid hA; have HM := Lib.hid hm
      clear hA hm
      go_enter Try.func11, Try.ntmps11
      go_wp2_with fail
      go_loopw [4, 19] (fun nv iv wr => ∃ (k : Nat) (z : Int), nv = .int .i64 z ∧ iv = .int .i64 k ∧ k ≤ m ∧ Hid (deN (l.take k) = z) ∧ Hid (∀ j, j < k → bdB (l.getD j 0) = true) ∧ 0 ≤ z ∧ z < 100 ^ k ∧ w = wr) (fun _ iv _ => m - (intOf iv).toNat)
      case atStart => exact ⟨0, 0, rfl, rfl, by omega, Lib.hid (by simp [deN]), Lib.hid (fun j hj => by omega), by omega, by simp, by first | rfl | trivial⟩
      case round =>
        obtain ⟨k, z, rfl, rfl, hk, HZ, HBD, hz0, hz1, rfl⟩ := hrel
        by_cases hlt : k < m
        · have hlt' : (k : Int) < (m : Int) := by omega
          obtain ⟨b, off, x, rfl, hx, hcx, hbl⟩ := HA.out.at hlt
          have hr := HA.out.ran x (List.mem_of_getElem? hx)
          obtain ⟨r0, r1⟩ := hr
          have hp := pow9 (k := k) (by omega)
          have hp8 := pow9 (k := 8) (by omega)
          have hz8 : z ≤ 10000000000000000 := by
            have h := Nat.pow_le_pow_right (n := 100) (by decide) (show k ≤ 8 by omega)
            rw [show (100 : Nat) ^ 8 = 10000000000000000 by decide] at h
            have e : (100 : Int) ^ k = ((100 ^ k : Nat) : Int) := by simp
            rw [e] at hz1; omega
          have han := and15 x r0 r1
          have HX := Lib.hid hx
          have HTK := Lib.hid (take_de hx)
          have HZ1 := Lib.hid hz1
          have hgd : l.getD k 0 = x := by rw [List.getD_eq_getElem?_getD, hx]; rfl
          have HGD := Lib.hid hgd
          clear hp hp8 hz1 hx hgd
          by_cases c1 : x / 16 ≤ 9
          · have f1 : decide (9 < x / 16) = false := decide_eq_false (by omega)
            by_cases c2 : x % 16 ≤ 9
            · have f2 : decide (9 < x % 16) = false := decide_eq_false (by omega)
              have HOK : Hid (bdB x = true) := Lib.hid (by unfold bdB; rw [decide_eq_true c1, decide_eq_true c2]; rfl)
              go_wp2_with fail
              go_roundw
              case rel => exact ⟨k + 1, z * 100 + x / 16 * 10 + x % 16, by first | rfl | go_num, by go_num, by omega, Lib.hid (by rw [HTK.out, HZ.out]), Lib.hid (bd_more HBD.out HGD.out HOK.out), by omega, de_up HZ1.out c1 c2, by first | rfl | trivial⟩
              case measure => simp [intOf]; omega
            · have f2 : decide (9 < x % 16) = true := decide_eq_true (by omega)
              have HNO : Hid (l.all bdB = false) := Lib.hid (all_no HX.out (by unfold bdB; rw [decide_eq_false c2, Bool.and_false]))
              go_wp2_with fail
              go_ret2
              exact ⟨by rw [HL.out, HNO.out]; rfl, rfl⟩
          · have f1 : decide (9 < x / 16) = true := decide_eq_true (by omega)
            have HNO : Hid (l.all bdB = false) := Lib.hid (all_no HX.out (by unfold bdB; rw [decide_eq_false c1, Bool.false_and]))
            go_wp2_with fail
            go_ret2
            exact ⟨by rw [HL.out, HNO.out]; rfl, rfl⟩
        · obtain rfl : k = m := by omega
          have HALL : Hid (l.all bdB = true) := Lib.hid (by
            rw [List.all_eq_true]
            intro y hy
            obtain ⟨j, hj, rfl⟩ := List.getElem_of_mem hy
            have := HBD.out j (by have := HM.out; omega)
            rwa [List.getD_eq_getElem?_getD, List.getElem?_eq_getElem hj] at this)
          clear hz1
          go_wp2_with fail
          go_ret2
          exact ⟨by rw [HL.out, HALL.out, if_pos rfl, ← HZ.out, List.take_of_length_le (by have := HM.out; omega)]; rfl, rfl⟩
    · have d9 : decide (9 < (m : Int)) = true := decide_eq_true (by omega)
      have HL : Hid (deL l = (0, 6)) := Lib.hid (by unfold deL; rw [if_pos (by omega)])
      clear hA hm
      go_enter Try.func11, Try.ntmps11
      go_wp2_with fail
      go_ret2
      exact ⟨by rw [HL.out]; rfl, rfl⟩
  · have d1 : decide ((m : Int) < 1) = true := decide_eq_true (by omega)
    have HL : Hid (deL l = (0, 6)) := Lib.hid (by unfold deL; rw [if_pos (by omega)])
    clear hA hm
    go_enter Try.func11, Try.ntmps11
    go_wp2_with fail
    go_ret2
    exact ⟨by rw [HL.out]; rfl, rfl⟩
end Go.Proofs.Ytblhpbheejemnaa
