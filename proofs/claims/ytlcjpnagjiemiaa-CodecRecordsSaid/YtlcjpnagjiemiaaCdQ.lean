/- Walks: a record is appended. -/
import Derived.Test.YtlcjpnagjiemiaaRows
import Derived.Test.YtlcjpnagjiemiaaCdP
namespace Go.Proofs.Ytlcjpnagjiemiaa
open Go.RowKit

/-- A record's fields. -/
structure Rc where
  s0 : Int
  s1 : Int
  s2 : Int
  sa : ByteArray
  sb : ByteArray
  s5 : Int
  s6 : Int
  s7 : Int
  s8 : Int
  b9 : Bool
  s10 : Int
  b11 : Bool
/-- The record of zeros. -/
def rc0 : Rc := ⟨0, 0, 0, ByteArray.empty, ByteArray.empty, 0, 0, 0, 0, false, 0, false⟩
/-- As a value. -/
def Rc.cells (r : Rc) : Array Value := #[.int .i64 r.s0, .int .i64 r.s1, .int .i64 r.s2, .string r.sa, .string r.sb, .int .i64 r.s5, .int .i64 r.s6, .int .i64 r.s7, .int .i64 r.s8, .bool r.b9, .int .i64 r.s10, .bool r.b11]
/-- Its bytes. -/
def Rc.enc (r : Rc) : List Int := numE r.s0 ++ (numE r.s1 ++ (numE r.s2 ++ (txtE r.sa ++ (txtE r.sb ++ (numE r.s5 ++ (numE r.s6 ++ (numE r.s7 ++ (numE r.s8 ++ (numE (bnum r.b9) ++ (numE r.s10 ++ (numE (bnum r.b11))))))))))))
/-- Its numbers are words; its texts are no longer than N. -/
structure Rc.In (r : Rc) (N : Nat) : Prop where
  hs0 : -9223372036854775808 ≤ r.s0 ∧ r.s0 ≤ 9223372036854775807
  hs1 : -9223372036854775808 ≤ r.s1 ∧ r.s1 ≤ 9223372036854775807
  hs2 : -9223372036854775808 ≤ r.s2 ∧ r.s2 ≤ 9223372036854775807
  hsa : r.sa.size ≤ N
  hsb : r.sb.size ≤ N
  hs5 : -9223372036854775808 ≤ r.s5 ∧ r.s5 ≤ 9223372036854775807
  hs6 : -9223372036854775808 ≤ r.s6 ∧ r.s6 ≤ 9223372036854775807
  hs7 : -9223372036854775808 ≤ r.s7 ∧ r.s7 ≤ 9223372036854775807
  hs8 : -9223372036854775808 ≤ r.s8 ∧ r.s8 ≤ 9223372036854775807
  hs10 : -9223372036854775808 ≤ r.s10 ∧ r.s10 ≤ 9223372036854775807
/-- The block that holds a record. -/
def RcB (W : World) (g : Nat) (r : Rc) : Prop := W.heap[g]? = some (.cells r.cells 40 (0, 0))
theorem RcB.below {W W' : World} {g B : Nat} {r : Rc} (h : RcB W g r) (hb : Below B W W') (hg : g < B) : RcB W' g r := by
  unfold RcB at *; rw [hb.block g hg]; exact h
theorem RcB.cells {W : World} {g : Nat} {r : Rc} (h : RcB W g r) : W.cell? ⟨g, 0, none⟩ = some (.int .i64 r.s0) ∧ W.cell? ⟨g, 1, none⟩ = some (.int .i64 r.s1) ∧ W.cell? ⟨g, 2, none⟩ = some (.int .i64 r.s2) ∧ W.cell? ⟨g, 3, none⟩ = some (.string r.sa) ∧ W.cell? ⟨g, 4, none⟩ = some (.string r.sb) ∧ W.cell? ⟨g, 5, none⟩ = some (.int .i64 r.s5) ∧ W.cell? ⟨g, 6, none⟩ = some (.int .i64 r.s6) ∧ W.cell? ⟨g, 7, none⟩ = some (.int .i64 r.s7) ∧ W.cell? ⟨g, 8, none⟩ = some (.int .i64 r.s8) ∧ W.cell? ⟨g, 9, none⟩ = some (.bool r.b9) ∧ W.cell? ⟨g, 10, none⟩ = some (.int .i64 r.s10) ∧ W.cell? ⟨g, 11, none⟩ = some (.bool r.b11) := by
  unfold RcB Rc.cells at h
  simp [World.cell?, h]
theorem txtE_len {s : ByteArray} (h : s.size ≤ 1000000000) : (txtE s).length ≤ s.size + 10 := by
  have := numE_len (z := s.size) (by omega) (by omega)
  rw [txtE, List.length_append, strB_len]; omega
/-- A word. -/
def Wd (z : Int) : Prop := -9223372036854775808 ≤ z ∧ z ≤ 9223372036854775807
/-- What has been appended so far: the call's own; below B nothing has turned since W1. -/
structure Stg (W1 : World) (B : Nat) (w : World) (v : Value) (L : List Int) (N : Nat) : Prop where
  own : Own w B v L
  bel : Below B W1 w
  siz : B ≤ w.heap.size
  len : L.length ≤ N
theorem Stg.drew {W1 : World} {B : Nat} {w : World} {v : Value} {L : List Int} {N : Nat} (n : Nat) (h : Stg W1 B w v L N) : Stg W1 B (w.drewN n) v L N :=
  ⟨h.own, h.bel.trans ⟨rfl, rfl, rfl, Nat.le_refl _, fun _ _ => rfl⟩, h.siz, h.len⟩
theorem Stg.num {W1 : World} {B : Nat} {w : World} {v : Value} {L : List Int} {N : Nat} {z : Int} (h : Stg W1 B w v L N) (hz : Wd z) (hN : N ≤ 1000000) :
    Calls Try.prog 29 #[v, .int .i64 z] w fun e w' => ∃ v', e = .returned v' ∧ Stg W1 B w' v' (L ++ numE z) (N + 10) :=
  (appNum_own z h.own h.siz (by have := h.len; omega) hz).mono fun e w' ⟨v', h1, h2, h3⟩ => ⟨v', h1, h2, h.bel.trans h3, Nat.le_trans h.siz h3.size, by have := numE_len hz.1 hz.2; have := h.len; rw [List.length_append]; omega⟩
theorem Stg.txt {W1 : World} {B : Nat} {w : World} {v : Value} {L : List Int} {N : Nat} {s : ByteArray} (h : Stg W1 B w v L N) (hs : s.size ≤ 1000) (hN : N ≤ 1000000) :
    Calls Try.prog 40 #[v, .string s] w fun e w' => ∃ v', e = .returned v' ∧ Stg W1 B w' v' (L ++ txtE s) (N + 1010) :=
  (appTxt_own s (by omega) (by have := h.len; omega) h.own h.siz).mono fun e w' ⟨v', h1, h2, h3⟩ => ⟨v', h1, h2, h.bel.trans h3, Nat.le_trans h.siz h3.size, by have := txtE_len (s := s) (by omega); have := h.len; rw [List.length_append]; omega⟩


set_option maxRecDepth 100000 in
set_option maxHeartbeats 8000000 in
theorem putRec_any {A : Option Addr} {n c : Nat} {l : List Int} {r : Rc} {w : World} (hA : Byt w A n c l) (hn : n ≤ 100000) (hr : r.In 1000) :
    Calls Try.prog 26 #[.slice A n c, .agg r.cells] w (Gives w w.heap.size (l ++ r.enc)) := by
  have hl := hA.len
  obtain ⟨W1, hW⟩ : ∃ W1, w.alloc (.cells r.cells 40) = W1 := ⟨_, rfl⟩
  have h0 : Below w.heap.size w W1 := hW ▸ (Below.refl w.heap.size w).alloc (Nat.le_refl _) (.cells r.cells 40)
  have hbx : RcB W1 w.heap.size r := hW ▸ heap_alloc_new _ _
  have hsz : W1.heap.size = w.heap.size + 1 := by rw [← hW]; simp
  obtain ⟨B, hB⟩ : ∃ B, W1.heap.size = B := ⟨_, rfl⟩
  have HB : Hid (w.heap.size < B) := Lib.hid (by omega)
  have hA1 := hA.below h0
  have HF := Lib.hid (full_any A n c W1 hA1.nil0 hA1.cap hA1.max)
  have hN0 : Calls Try.prog 29 #[.slice A n n, .int .i64 r.s0] W1 fun e w' => ∃ v', e = .returned v' ∧ Stg W1 B w' v' (l ++ numE r.s0) 100010 :=
    (appNum_byt r.s0 hA1.full (by omega) hr.hs0).mono fun e w' ⟨v', h1, h2, h3⟩ => ⟨v', h1, hB ▸ h2, hB ▸ h3, hB ▸ h3.size, by have := numE_len hr.hs0.1 hr.hs0.2; rw [List.length_append]; omega⟩
  have HN := Lib.hid hN0
  have H0 := Lib.hid h0
  have HX := Lib.hid hbx
  have e1 : Wd r.s1 := hr.hs1
  have e2 : Wd r.s2 := hr.hs2
  have e3 : r.sa.size ≤ 1000 := hr.hsa
  have e4 : r.sb.size ≤ 1000 := hr.hsb
  have e5 : Wd r.s5 := hr.hs5
  have e6 : Wd r.s6 := hr.hs6
  have e7 : Wd r.s7 := hr.hs7
  have e8 : Wd r.s8 := hr.hs8
  have e9 : Wd (bnum r.b9) := bnum_ran _
  have e10 : Wd r.s10 := hr.hs10
  have e11 : Wd (bnum r.b11) := bnum_ran _
  have ix3_0 : ∀ w, (Instr.index 67 (.agg #[.int .i64 r.s0, .int .i64 r.s1, .int .i64 r.s2]) (.int .i64 0)).run Try.prog w = .ok (.int .i64 r.s0) w := fun _ => by kernel_rfl
  have ix3_1 : ∀ w, (Instr.index 67 (.agg #[.int .i64 r.s0, .int .i64 r.s1, .int .i64 r.s2]) (.int .i64 1)).run Try.prog w = .ok (.int .i64 r.s1) w := fun _ => by kernel_rfl
  have ix3_2 : ∀ w, (Instr.index 67 (.agg #[.int .i64 r.s0, .int .i64 r.s1, .int .i64 r.s2]) (.int .i64 2)).run Try.prog w = .ok (.int .i64 r.s2) w := fun _ => by kernel_rfl
  have ix7_0 : ∀ w, (Instr.index 69 (.agg #[.int .i64 r.s5, .int .i64 r.s6, .int .i64 r.s7, .int .i64 r.s8, .int .i64 (bnum r.b9), .int .i64 r.s10, .int .i64 (bnum r.b11)]) (.int .i64 0)).run Try.prog w = .ok (.int .i64 r.s5) w := fun _ => by kernel_rfl
  have ix7_1 : ∀ w, (Instr.index 69 (.agg #[.int .i64 r.s5, .int .i64 r.s6, .int .i64 r.s7, .int .i64 r.s8, .int .i64 (bnum r.b9), .int .i64 r.s10, .int .i64 (bnum r.b11)]) (.int .i64 1)).run Try.prog w = .ok (.int .i64 r.s6) w := fun _ => by kernel_rfl
  have ix7_2 : ∀ w, (Instr.index 69 (.agg #[.int .i64 r.s5, .int .i64 r.s6, .int .i64 r.s7, .int .i64 r.s8, .int .i64 (bnum r.b9), .int .i64 r.s10, .int .i64 (bnum r.b11)]) (.int .i64 2)).run Try.prog w = .ok (.int .i64 r.s7) w := fun _ => by kernel_rfl
  have ix7_3 : ∀ w, (Instr.index 69 (.agg #[.int .i64 r.s5, .int .i64 r.s6, .int .i64 r.s7, .int .i64 r.s8, .int .i64 (bnum r.b9), .int .i64 r.s10, .int .i64 (bnum r.b11)]) (.int .i64 3)).run Try.prog w = .ok (.int .i64 r.s8) w := fun _ => by kernel_rfl
  have ix7_4 : ∀ w, (Instr.index 69 (.agg #[.int .i64 r.s5, .int .i64 r.s6, .int .i64 r.s7, .int .i64 r.s8, .int .i64 (bnum r.b9), .int .i64 r.s10, .int .i64 (bnum r.b11)]) (.int .i64 4)).run Try.prog w = .ok (.int .i64 (bnum r.b9)) w := fun _ => by kernel_rfl
  have ix7_5 : ∀ w, (Instr.index 69 (.agg #[.int .i64 r.s5, .int .i64 r.s6, .int .i64 r.s7, .int .i64 r.s8, .int .i64 (bnum r.b9), .int .i64 r.s10, .int .i64 (bnum r.b11)]) (.int .i64 5)).run Try.prog w = .ok (.int .i64 r.s10) w := fun _ => by kernel_rfl
  have ix7_6 : ∀ w, (Instr.index 69 (.agg #[.int .i64 r.s5, .int .i64 r.s6, .int .i64 r.s7, .int .i64 r.s8, .int .i64 (bnum r.b9), .int .i64 r.s10, .int .i64 (bnum r.b11)]) (.int .i64 6)).run Try.prog w = .ok (.int .i64 (bnum r.b11)) w := fun _ => by kernel_rfl
  have hvals : r.cells = #[.int .i64 r.s0, .int .i64 r.s1, .int .i64 r.s2, .string r.sa, .string r.sb, .int .i64 r.s5, .int .i64 r.s6, .int .i64 r.s7, .int .i64 r.s8, .bool r.b9, .int .i64 r.s10, .bool r.b11] := rfl
  obtain ⟨k0, k1, k2, k3, k4, k5, k6, k7, k8, k9, k10, k11⟩ := hbx.cells
  rw [hvals] at hW ⊢
  have HW := Lib.hid hW
  clear hA hA1 h0 hn hr hbx hN0 hB hsz hvals
  go_enter Try.func26, Try.ntmps26
  go_wp2_with (go_at_call 30; refine HF.out.mono ?_; rintro e w1 ⟨rfl, rfl⟩)
  refine wp_loop_rounds 4 ?_
  rw [rounds_succ]
  go_wp2_with (go_at_call 29; refine HN.out.mono ?_; rintro e w2 ⟨v2, rfl, hs⟩)
  rw [rounds_succ]
  go_wp2_with (go_at_call 29; refine (Stg.num (by first | assumption | exact Stg.drew _ (by assumption)) (by assumption) (by omega)).mono ?_; rintro e w2 ⟨v2, rfl, hs⟩; skip)
  rw [rounds_succ]
  go_wp2_with (go_at_call 29; refine (Stg.num (by first | assumption | exact Stg.drew _ (by assumption)) (by assumption) (by omega)).mono ?_; rintro e w2 ⟨v2, rfl, hs⟩; obtain ⟨-, -, -, k3, -, -, -, -, -, -, -, -⟩ := (HX.out.below hs.bel HB.out).cells)
  rw [rounds_succ]
  go_wp2_with (first | (go_at_call 40; refine (Stg.txt (by assumption) (by assumption) (by omega)).mono ?_; rintro e w2 ⟨v2, rfl, hs⟩; obtain ⟨-, -, -, -, k4, k5, k6, k7, k8, k9, k10, k11⟩ := (HX.out.below hs.bel HB.out).cells))
  go_quiet ((go_at_call 46; exact Calls.quiet_of_same (truthNum_any _ _)))
  go_wp2_with fail
  refine wp_loop_rounds 8 ?_
  rw [rounds_succ]
  go_wp2_with (go_at_call 29; refine (Stg.num (by first | assumption | exact Stg.drew _ (by assumption)) (by assumption) (by omega)).mono ?_; rintro e w2 ⟨v2, rfl, hs⟩; skip)
  rw [rounds_succ]
  go_wp2_with (go_at_call 29; refine (Stg.num (by first | assumption | exact Stg.drew _ (by assumption)) (by assumption) (by omega)).mono ?_; rintro e w2 ⟨v2, rfl, hs⟩; skip)
  rw [rounds_succ]
  go_wp2_with (go_at_call 29; refine (Stg.num (by first | assumption | exact Stg.drew _ (by assumption)) (by assumption) (by omega)).mono ?_; rintro e w2 ⟨v2, rfl, hs⟩; skip)
  rw [rounds_succ]
  go_wp2_with (go_at_call 29; refine (Stg.num (by first | assumption | exact Stg.drew _ (by assumption)) (by assumption) (by omega)).mono ?_; rintro e w2 ⟨v2, rfl, hs⟩; skip)
  rw [rounds_succ]
  go_wp2_with (go_at_call 29; refine (Stg.num (by first | assumption | exact Stg.drew _ (by assumption)) (by assumption) (by omega)).mono ?_; rintro e w2 ⟨v2, rfl, hs⟩; skip)
  rw [rounds_succ]
  go_wp2_with (go_at_call 29; refine (Stg.num (by first | assumption | exact Stg.drew _ (by assumption)) (by assumption) (by omega)).mono ?_; rintro e w2 ⟨v2, rfl, hs⟩; skip)
  rw [rounds_succ]
  go_wp2_with (go_at_call 29; refine (Stg.num (by first | assumption | exact Stg.drew _ (by assumption)) (by assumption) (by omega)).mono ?_; rintro e w2 ⟨v2, rfl, hs⟩; skip)
  rw [rounds_succ]
  go_wp2_with fail
  go_ret
  refine ⟨_, rfl, ?_, H0.out.trans (hs.bel.mono (Nat.le_of_lt HB.out))⟩
  have hf := hs.own.mono (Nat.le_of_lt HB.out)
  simp only [Rc.enc, List.append_assoc] at hf ⊢
  exact hf
end Go.Proofs.Ytlcjpnagjiemiaa
