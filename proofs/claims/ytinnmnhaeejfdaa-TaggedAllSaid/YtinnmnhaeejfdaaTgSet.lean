/- Walks: setting the fields of a record. -/
import Derived.Test.YtinnmnhaeejfdaaTgDecM
import Derived.Test.YtinnmnhaeejfdaaTgEnc
namespace Go.Proofs.Ytinnmnhaeejfdaa
open Go.RowKit

theorem RcB.fr {W : World} {g : Nat} {r : Rc} (h : RcB W g r) : ∀ i, W.frozen? ⟨g, i, none⟩ = false := by
  intro i
  unfold RcB at h
  simp [World.frozen?, h]
theorem RcB.set0 {W : World} {g : Nat} {r : Rc} (h : RcB W g r) (x : Int) : RcB (W.setCell ⟨g, 0, none⟩ (.int .i64 x)) g { r with s0 := x } := by
  unfold RcB Rc.cells at *
  simp [World.setCell, Array.getElem?_modify, h]
theorem RcB.set1 {W : World} {g : Nat} {r : Rc} (h : RcB W g r) (x : Int) : RcB (W.setCell ⟨g, 1, none⟩ (.int .i64 x)) g { r with s1 := x } := by
  unfold RcB Rc.cells at *
  simp [World.setCell, Array.getElem?_modify, h]
theorem RcB.set2 {W : World} {g : Nat} {r : Rc} (h : RcB W g r) (x : Int) : RcB (W.setCell ⟨g, 2, none⟩ (.int .i64 x)) g { r with s2 := x } := by
  unfold RcB Rc.cells at *
  simp [World.setCell, Array.getElem?_modify, h]
theorem RcB.set3 {W : World} {g : Nat} {r : Rc} (h : RcB W g r) (x : ByteArray) : RcB (W.setCell ⟨g, 3, none⟩ (.string x)) g { r with sa := x } := by
  unfold RcB Rc.cells at *
  simp [World.setCell, Array.getElem?_modify, h]
theorem RcB.set4 {W : World} {g : Nat} {r : Rc} (h : RcB W g r) (x : ByteArray) : RcB (W.setCell ⟨g, 4, none⟩ (.string x)) g { r with sb := x } := by
  unfold RcB Rc.cells at *
  simp [World.setCell, Array.getElem?_modify, h]
theorem RcB.set5 {W : World} {g : Nat} {r : Rc} (h : RcB W g r) (x : Int) : RcB (W.setCell ⟨g, 5, none⟩ (.int .i64 x)) g { r with s5 := x } := by
  unfold RcB Rc.cells at *
  simp [World.setCell, Array.getElem?_modify, h]
theorem RcB.set6 {W : World} {g : Nat} {r : Rc} (h : RcB W g r) (x : Int) : RcB (W.setCell ⟨g, 6, none⟩ (.int .i64 x)) g { r with s6 := x } := by
  unfold RcB Rc.cells at *
  simp [World.setCell, Array.getElem?_modify, h]
theorem RcB.set7 {W : World} {g : Nat} {r : Rc} (h : RcB W g r) (x : Int) : RcB (W.setCell ⟨g, 7, none⟩ (.int .i64 x)) g { r with s7 := x } := by
  unfold RcB Rc.cells at *
  simp [World.setCell, Array.getElem?_modify, h]
theorem RcB.set8 {W : World} {g : Nat} {r : Rc} (h : RcB W g r) (x : Int) : RcB (W.setCell ⟨g, 8, none⟩ (.int .i64 x)) g { r with s8 := x } := by
  unfold RcB Rc.cells at *
  simp [World.setCell, Array.getElem?_modify, h]
theorem RcB.set9 {W : World} {g : Nat} {r : Rc} (h : RcB W g r) (x : Bool) : RcB (W.setCell ⟨g, 9, none⟩ (.bool x)) g { r with b9 := x } := by
  unfold RcB Rc.cells at *
  simp [World.setCell, Array.getElem?_modify, h]
theorem RcB.set10 {W : World} {g : Nat} {r : Rc} (h : RcB W g r) (x : Int) : RcB (W.setCell ⟨g, 10, none⟩ (.int .i64 x)) g { r with s10 := x } := by
  unfold RcB Rc.cells at *
  simp [World.setCell, Array.getElem?_modify, h]
theorem RcB.set11 {W : World} {g : Nat} {r : Rc} (h : RcB W g r) (x : Bool) : RcB (W.setCell ⟨g, 11, none⟩ (.bool x)) g { r with b11 := x } := by
  unfold RcB Rc.cells at *
  simp [World.setCell, Array.getElem?_modify, h]

theorem pow_small {k : Nat} (h : k ≤ 5) : (256 : Int) ^ k ≤ 1099511627776 := by
  have : k = 0 ∨ k = 1 ∨ k = 2 ∨ k = 3 ∨ k = 4 ∨ k = 5 := by omega
  rcases this with rfl | rfl | rfl | rfl | rfl | rfl <;> decide
theorem take_snoc' {l : List Int} {k : Nat} {x : Int} (h : l[k]? = some x) : l.take (k + 1) = l.take k ++ [x] := by
  obtain ⟨hk, rfl⟩ := List.getElem?_eq_some_iff.1 h
  exact List.take_succ_eq_append_getElem hk
theorem head_at {l : List Int} {x : Int} (h : l[0]? = some x) : l.headD 0 = x := by
  cases l with
  | nil => simp at h
  | cons a t => simpa using h

set_option maxHeartbeats 4000000 in
theorem setNum_any {A : Option Addr} {n c : Nat} {l : List Int} {w : World} {g i : Nat} {old : Int} (hA : Byt w A n c l) (hn : n ≤ 100000) (hcell : w.cell? ⟨g, i, none⟩ = some (.int .i64 old)) (hfr : w.frozen? ⟨g, i, none⟩ = false) :
    Calls Try.prog 48 #[.pointer (some ⟨g, i, none⟩), .slice A n c] w fun e w' => (if numOk l = true then e = .returned (.bool true) ∧ w' = w.setCell ⟨g, i, none⟩ (.int .i64 (numD l)) else e = .returned (.bool false) ∧ w' = w) := by
  have hl := hA.len
  have hni : (n : Int) ≤ 100000 := by omega
  by_cases h1 : n < 1
  · have hno : numOk l = false := by simp [numOk]; omega
    have h1i : (n : Int) < 1 := by omega
    have hnn : ¬ numOk l = true := by rw [hno]; decide
    simp only [if_neg hnn]
    clear hnn
    clear hA hno
    go_enter Try.func48, Try.ntmps48
    go_wp2
    go_ret
    exact ⟨rfl, rfl⟩
  by_cases h6 : 6 < n
  · have hno : numOk l = false := by simp [numOk]; omega
    have h6i : (6 : Int) < (n : Int) := by omega
    have h1i : (1 : Int) ≤ (n : Int) := by omega
    have hnn : ¬ numOk l = true := by rw [hno]; decide
    simp only [if_neg hnn]
    clear hnn
    clear hA hno
    go_enter Try.func48, Try.ntmps48
    go_wp2
    go_ret
    exact ⟨rfl, rfl⟩
  have h1i : (1 : Int) ≤ (n : Int) := by omega
  have h0i : (0 : Int) < (n : Int) := by omega
  have h6i : (n : Int) ≤ 6 := by omega
  obtain ⟨b, off, x, rfl, hx, hc, hb⟩ := hA.at (k := 0) (by omega)
  rw [Nat.add_zero] at hc
  have hxr := hA.ran x (List.mem_of_getElem? hx)
  by_cases hx0 : x = 0
  · have hno : numOk l = false := by
      have h9 := head_at hx
      unfold numOk
      rw [h9, hx0]
      simp
    subst hx0
    have hnn : ¬ numOk l = true := by rw [hno]; decide
    simp only [if_neg hnn]
    clear hnn
    clear hA hno
    go_enter Try.func48, Try.ntmps48
    go_wp2
    go_ret
    exact ⟨rfl, rfl⟩
  have hyes : numOk l = true := by
    have h9 := head_at hx
    unfold numOk
    rw [h9]
    simp [hx0]
    omega
  simp only [if_pos hyes]
  have hx0b : (x == 0) = false := by simp [hx0]
  have HA := Lib.hid hA; have HL := Lib.hid hl; have HX0 := Lib.hid hx0
  clear hA hl hyes hx hxr h1 h6
  go_enter Try.func48, Try.ntmps48
  go_wp2
  go_loopw [5, 24] (fun v i wr => ∃ k : Nat, i = .int .i64 (k : Int) ∧ k ≤ n ∧ v = .int .i64 (numD (l.take k)) ∧ wr = w) (fun _ i _ => n - (intOf i).toNat)
  case atStart => exact ⟨0, rfl, by omega, by simp [numD], rfl⟩
  case round =>
    obtain ⟨k, rfl, hk, rfl, rfl⟩ := hrel
    by_cases hlt : k < n
    · obtain ⟨b', off', y, hA', hy, hcy, -⟩ := HA.out.at hlt
      obtain ⟨rfl, rfl⟩ : b = b' ∧ off = off' := by simpa using hA'
      have hyr := HA.out.ran y (List.mem_of_getElem? hy)
      have hr := numD_ran (l.take k) (fun z hz => HA.out.ran z (List.mem_of_mem_take hz))
      rw [List.length_take, Nat.min_eq_left (by have := HL.out; omega)] at hr
      have hp := pow_small (k := k) (by omega)
      have ht := take_snoc' hy
      obtain ⟨N, hN⟩ : ∃ N, numD (l.take k) = N := ⟨_, rfl⟩
      have hs : numD (l.take (k + 1)) = N * 256 + y := by rw [ht, numD_snoc, hN]
      rw [hN] at hr ⊢
      have hN0 : 0 ≤ N := hr.1
      have hN1 : N < 1099511627776 := by omega
      obtain ⟨hy0, hy1⟩ := hyr
      have hor := or_i64 hN0 hN1 hy0 hy1
      have hlt' : (k : Int) < (n : Int) := by omega
      have HS := Lib.hid hs
      clear hr hp ht hN hs hA' hy
      go_wp2
      go_roundw
      case rel => exact ⟨k + 1, by first | rfl | (simp; done), by omega, by rw [HS.out], by first | trivial | rfl⟩
      case measure => simp [intOf]; omega
    · obtain rfl : k = n := by omega
      have hfin : l.take k = l := List.take_of_length_le (by have := HL.out; omega)
      rw [hfin]
      clear hfin
      go_wp2
      go_ret
      exact ⟨rfl, rfl⟩
set_option maxHeartbeats 4000000 in
theorem refNum_any {A : Option Addr} {n c : Nat} {l : List Int} {w : World} (hA : Byt w A n c l) (hn : n ≤ 100000) :
    Calls Try.prog 47 #[.slice A n c] w fun e w' => e = .returned (.int .i64 (if numOk l = true then numD l else -1)) ∧ w = w' := by
  have hl := hA.len
  have hni : (n : Int) ≤ 100000 := by omega
  by_cases h1 : n < 1
  · have hno : numOk l = false := by simp [numOk]; omega
    have h1i : (n : Int) < 1 := by omega
    have hnn : ¬ numOk l = true := by rw [hno]; decide
    simp only [if_neg hnn]
    clear hnn
    clear hA hno
    go_enter Try.func47, Try.ntmps47
    go_wp2
    go_ret
    exact ⟨rfl, rfl⟩
  by_cases h6 : 6 < n
  · have hno : numOk l = false := by simp [numOk]; omega
    have h6i : (6 : Int) < (n : Int) := by omega
    have h1i : (1 : Int) ≤ (n : Int) := by omega
    have hnn : ¬ numOk l = true := by rw [hno]; decide
    simp only [if_neg hnn]
    clear hnn
    clear hA hno
    go_enter Try.func47, Try.ntmps47
    go_wp2
    go_ret
    exact ⟨rfl, rfl⟩
  have h1i : (1 : Int) ≤ (n : Int) := by omega
  have h0i : (0 : Int) < (n : Int) := by omega
  have h6i : (n : Int) ≤ 6 := by omega
  obtain ⟨b, off, x, rfl, hx, hc, hb⟩ := hA.at (k := 0) (by omega)
  rw [Nat.add_zero] at hc
  have hxr := hA.ran x (List.mem_of_getElem? hx)
  by_cases hx0 : x = 0
  · have hno : numOk l = false := by
      have h9 := head_at hx
      unfold numOk
      rw [h9, hx0]
      simp
    subst hx0
    have hnn : ¬ numOk l = true := by rw [hno]; decide
    simp only [if_neg hnn]
    clear hnn
    clear hA hno
    go_enter Try.func47, Try.ntmps47
    go_wp2
    go_ret
    exact ⟨rfl, rfl⟩
  have hyes : numOk l = true := by
    have h9 := head_at hx
    unfold numOk
    rw [h9]
    simp [hx0]
    omega
  simp only [if_pos hyes]
  have hx0b : (x == 0) = false := by simp [hx0]
  have HA := Lib.hid hA; have HL := Lib.hid hl; have HX0 := Lib.hid hx0
  clear hA hl hyes hx hxr h1 h6
  go_enter Try.func47, Try.ntmps47
  go_wp2
  go_loopw [3, 4] (fun v i wr => ∃ k : Nat, i = .int .i64 (k : Int) ∧ k ≤ n ∧ v = .int .i64 (numD (l.take k)) ∧ wr = w) (fun _ i _ => n - (intOf i).toNat)
  case atStart => exact ⟨0, rfl, by omega, by simp [numD], rfl⟩
  case round =>
    obtain ⟨k, rfl, hk, rfl, rfl⟩ := hrel
    by_cases hlt : k < n
    · obtain ⟨b', off', y, hA', hy, hcy, -⟩ := HA.out.at hlt
      obtain ⟨rfl, rfl⟩ : b = b' ∧ off = off' := by simpa using hA'
      have hyr := HA.out.ran y (List.mem_of_getElem? hy)
      have hr := numD_ran (l.take k) (fun z hz => HA.out.ran z (List.mem_of_mem_take hz))
      rw [List.length_take, Nat.min_eq_left (by have := HL.out; omega)] at hr
      have hp := pow_small (k := k) (by omega)
      have ht := take_snoc' hy
      obtain ⟨N, hN⟩ : ∃ N, numD (l.take k) = N := ⟨_, rfl⟩
      have hs : numD (l.take (k + 1)) = N * 256 + y := by rw [ht, numD_snoc, hN]
      rw [hN] at hr ⊢
      have hN0 : 0 ≤ N := hr.1
      have hN1 : N < 1099511627776 := by omega
      obtain ⟨hy0, hy1⟩ := hyr
      have hor := or_i64 hN0 hN1 hy0 hy1
      have hlt' : (k : Int) < (n : Int) := by omega
      have HS := Lib.hid hs
      clear hr hp ht hN hs hA' hy
      go_wp2
      go_roundw
      case rel => exact ⟨k + 1, by first | rfl | (simp; done), by omega, by rw [HS.out], by first | trivial | rfl⟩
      case measure => simp [intOf]; omega
    · obtain rfl : k = n := by omega
      have hfin : l.take k = l := List.take_of_length_le (by have := HL.out; omega)
      rw [hfin]
      clear hfin
      go_wp2
      go_ret
      exact ⟨rfl, rfl⟩
set_option maxHeartbeats 2000000 in
theorem setDig_any {A : Option Addr} {n c : Nat} {l : List Int} {w : World} {g i : Nat} {old : ByteArray} (hA : Byt w A n c l) (hcell : w.cell? ⟨g, i, none⟩ = some (.string old)) (hfr : w.frozen? ⟨g, i, none⟩ = false) (hg : g < w.heap.size) :
    Calls Try.prog 49 #[.pointer (some ⟨g, i, none⟩), .slice A n c] w fun e w' => e = .returned (.bool (decide (unpE l = 0))) ∧ ∃ w1, Below w.heap.size w w1 ∧ w' = w1.setCell ⟨g, i, none⟩ (.string (S (unpL l))) := by
  have HU := Lib.hid (unpack_any A n c l w (byt_bts hA) (Nat.le_trans hA.cap hA.max))
  have hz : ((unpE l == 0) : Bool) = decide (unpE l = 0) := by cases h : decide (unpE l = 0) <;> simp_all
  obtain ⟨E, hE⟩ : ∃ E, unpE l = E := ⟨_, rfl⟩
  obtain ⟨T, hT⟩ : ∃ T, S (unpL l) = T := ⟨_, rfl⟩
  rw [hE, hT] at HU
  rw [hE, hT]
  rw [hE] at hz
  have HZ := Lib.hid hz; have HF := Lib.hid hfr
  clear hA hE hT hz
  go_enter Try.func49, Try.ntmps49
  go_wp2_with (go_at_call 51; refine HU.out.mono ?_; rintro e w1 ⟨rfl, hb⟩; have HB := Lib.hid hb; have hcell := (hb.cell (p := ⟨g, i, none⟩) hg).trans hcell; have hfr : w1.frozen? ⟨g, i, none⟩ = false := (by have := HF.out; simp only [World.frozen?, hb.block g hg] at *; exact this); clear hb)
  go_ret
  exact ⟨by rw [← HZ.out]; rfl, _, HB.out, rfl⟩
end Go.Proofs.Ytinnmnhaeejfdaa
