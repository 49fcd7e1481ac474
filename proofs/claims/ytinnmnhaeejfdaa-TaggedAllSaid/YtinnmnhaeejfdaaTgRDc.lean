/- Walk: the record of bytes, in the reference. -/
import Derived.Test.YtinnmnhaeejfdaaTgDec
import Derived.Test.YtinnmnhaeejfdaaTgRFd
import Derived.Test.YtinnmnhaeejfdaaTgREl
import Derived.Test.YtinnmnhaeejfdaaTgErr
import Derived.Deep.CutRange
import Derived.Test.YtinnmnhaeejfdaaRegS2
import Derived.Deep.MidRow
import Derived.Deep.QuietTactic
import Derived.BigQuiet
namespace Go.Proofs.Ytinnmnhaeejfdaa
open Go.RowKit

set_option maxRecDepth 100000 in
set_option maxHeartbeats 32000000 in
theorem rdec_short {A : Option Addr} {n c : Nat} {l : List Int} {w : World} (hA : Byt w A n c l) (hn : n ≤ 100000) (hs : n < 2) : Calls Try.prog 20 #[.slice A n c] w (DecP l w) := by
  obtain ⟨L, hL, hL0, hx, hLs⟩ := rec_world w rc0
  obtain ⟨b0, hb0⟩ : ∃ b0, w.heap.size = b0 := ⟨_, rfl⟩
  rw [hb0] at hx
  have hni : (n : Int) ≤ 100000 := by omega
  have HX := Lib.hid hx; have HL0 := Lib.hid hL0; have HB0 := Lib.hid hb0; have HLS : Hid (L.heap.size = b0 + 1) := Lib.hid (by omega)
  simp only [Rc.cells, rc0] at hL
  clear hx hL0 hLs
  have hd : decR l = (rc0, 2) := by
    have := hA.len
    match l, this with
    | [], _ => rfl
    | [_], _ => rfl
    | x :: y :: t, h => simp at h; omega
  have HD := Lib.hid hd
  have h2 : (n : Int) < 2 := by omega
  clear hA hd hs
  go_enter Try.func20, Try.ntmps20
  go_upto_region 1 with fail
  go_cut [30] from 12 to 87 (fun s wx => s = .bool true ∧ Below L.heap.size L wx)
  case first =>
    go_quiet (fail)
    go_wp2
    go_meet
    case rel => exact ⟨rfl, below_drawn (Below.refl _ _) _⟩
  case rest =>
    obtain ⟨rfl, hb1⟩ := hcut
    have HB1 := Lib.hid hb1
    have HX := Lib.hid (HX.out.below hb1 (by have := HLS.out; omega))
    obtain ⟨q0, q1, q2, q3, q4, q5, q6, q7, q8, q9, q10, q11⟩ := HX.out.cells
    have hfr := HX.out.fr
    clear hb1
    go_wp2
    refine bodyPost_ret (v := .tuple #[.agg rc0.cells, .int .i64 2]) ?_ rfl ⟨by rw [HD.out], ?_⟩
    · exact results_cell2 (p := 2) (u := 3) rfl _ _ b0 34 rc0.cells (0, 0) _ rfl (RcB.put rc0 HX.out) Try.underlying34 rfl rfl
    · rw [HB0.out]
      have h9 := HB0.out ▸ HL0.out.trans (Below.mono HB1.out HL0.out.size)
      repeat' apply Below.setCell
      all_goals first | exact h9 | exact Nat.le_refl _
set_option maxRecDepth 100000 in
set_option maxHeartbeats 32000000 in
theorem rdec_torn {A : Option Addr} {n c : Nat} {x y : Int} {t : List Int} {w : World} (hA : Byt w A n c (x :: y :: t)) (hn : n ≤ 100000) (hs : (t.length : Int) < x * 256 + y) : Calls Try.prog 20 #[.slice A n c] w (DecP (x :: y :: t) w) := by
  obtain ⟨L, hL, hL0, hx, hLs⟩ := rec_world w rc0
  obtain ⟨b0, hb0⟩ : ∃ b0, w.heap.size = b0 := ⟨_, rfl⟩
  rw [hb0] at hx
  have hni : (n : Int) ≤ 100000 := by omega
  have HX := Lib.hid hx; have HL0 := Lib.hid hL0; have HB0 := Lib.hid hb0; have HLS : Hid (L.heap.size = b0 + 1) := Lib.hid (by omega)
  simp only [Rc.cells, rc0] at hL
  clear hx hL0 hLs
  have hl := hA.len
  simp only [List.length_cons] at hl
  obtain ⟨b, off, x', rfl, hx, hc, hbl⟩ := hA.at (k := 0) (by omega)
  obtain ⟨b', off', y', hA', hy, hcy, -⟩ := hA.at (k := 1) (by omega)
  obtain ⟨rfl, rfl⟩ : b = b' ∧ off = off' := by simpa using hA'
  obtain rfl : x = x' := by simpa using hx
  obtain rfl : y = y' := by simpa using hy
  rw [Nat.add_zero] at hc
  have hc0 := (HL0.out.cell (p := ⟨b, off, none⟩) hbl).trans hc
  have hc1 := (HL0.out.cell (p := ⟨b, off + 1, none⟩) hbl).trans hcy
  obtain ⟨hx0, hx1⟩ := hA.ran x (by simp)
  obtain ⟨hy0, hy1⟩ := hA.ran y (by simp)
  have h2 : ¬ (n : Int) < 2 := by omega
  have h2b : decide ((n : Int) < 2) = false := by simp; omega
  have i0 : (0 : Int) < (n : Int) := by omega
  have i1 : (1 : Int) < (n : Int) := by omega
  have s0 : IntKind.i64.wrap ((n : Int) - 2) = (n : Int) - 2 := IntWalk.i64_in _ (by omega)
  have s1 : IntKind.i64.wrap (x * 256) = x * 256 := IntWalk.i64_in _ (by omega)
  have s2 : IntKind.i64.wrap (x * 256 + y) = x * 256 + y := IntWalk.i64_in _ (by omega)
  have hnt : (n : Int) - 2 = (t.length : Int) := by omega
  have HA := Lib.hid hA; have HNT := Lib.hid hnt
  have hd : decR (x :: y :: t) = (rc0, 2) := by
    simp only [decR]
    rw [if_pos hs]
  have HD := Lib.hid hd
  have HMB : Hid (decide ((n : Int) - 2 < x * 256 + y) = true) := Lib.hid (decide_eq_true (by omega))
  clear hA hd hs hx hy hA' hnt hl hc hcy hbl
  go_enter Try.func20, Try.ntmps20
  go_upto_region 1 with fail
  go_cut [30] from 12 to 87 (fun s wx => s = .bool true ∧ Below L.heap.size L wx)
  case first =>
    go_quiet (fail)
    go_wp2
    go_meet
    case rel => exact ⟨by first | rfl | rw [HMB.out], below_drawn (Below.refl _ _) _⟩
  case rest =>
    obtain ⟨rfl, hb1⟩ := hcut
    have HB1 := Lib.hid hb1
    have HX := Lib.hid (HX.out.below hb1 (by have := HLS.out; omega))
    obtain ⟨q0, q1, q2, q3, q4, q5, q6, q7, q8, q9, q10, q11⟩ := HX.out.cells
    have hfr := HX.out.fr
    clear hb1
    go_wp2
    refine bodyPost_ret (v := .tuple #[.agg rc0.cells, .int .i64 2]) ?_ rfl ⟨by rw [HD.out], ?_⟩
    · exact results_cell2 (p := 2) (u := 3) rfl _ _ b0 34 rc0.cells (0, 0) _ rfl (RcB.put rc0 HX.out) Try.underlying34 rfl rfl
    · rw [HB0.out]
      have h9 := HB0.out ▸ HL0.out.trans (Below.mono HB1.out HL0.out.size)
      repeat' apply Below.setCell
      all_goals first | exact h9 | exact Nat.le_refl _
set_option maxRecDepth 100000 in
set_option maxHeartbeats 32000000 in
theorem rdec_more {A : Option Addr} {n c : Nat} {x y : Int} {t : List Int} {w : World} (hA : Byt w A n c (x :: y :: t)) (hn : n ≤ 100000) (hs : ¬ (t.length : Int) < x * 256 + y) (hs2 : x * 256 + y < (t.length : Int)) : Calls Try.prog 20 #[.slice A n c] w (DecP (x :: y :: t) w) := by
  obtain ⟨L, hL, hL0, hx, hLs⟩ := rec_world w rc0
  obtain ⟨b0, hb0⟩ : ∃ b0, w.heap.size = b0 := ⟨_, rfl⟩
  rw [hb0] at hx
  have hni : (n : Int) ≤ 100000 := by omega
  have HX := Lib.hid hx; have HL0 := Lib.hid hL0; have HB0 := Lib.hid hb0; have HLS : Hid (L.heap.size = b0 + 1) := Lib.hid (by omega)
  simp only [Rc.cells, rc0] at hL
  clear hx hL0 hLs
  have hl := hA.len
  simp only [List.length_cons] at hl
  obtain ⟨b, off, x', rfl, hx, hc, hbl⟩ := hA.at (k := 0) (by omega)
  obtain ⟨b', off', y', hA', hy, hcy, -⟩ := hA.at (k := 1) (by omega)
  obtain ⟨rfl, rfl⟩ : b = b' ∧ off = off' := by simpa using hA'
  obtain rfl : x = x' := by simpa using hx
  obtain rfl : y = y' := by simpa using hy
  rw [Nat.add_zero] at hc
  have hc0 := (HL0.out.cell (p := ⟨b, off, none⟩) hbl).trans hc
  have hc1 := (HL0.out.cell (p := ⟨b, off + 1, none⟩) hbl).trans hcy
  obtain ⟨hx0, hx1⟩ := hA.ran x (by simp)
  obtain ⟨hy0, hy1⟩ := hA.ran y (by simp)
  have h2 : ¬ (n : Int) < 2 := by omega
  have h2b : decide ((n : Int) < 2) = false := by simp; omega
  have i0 : (0 : Int) < (n : Int) := by omega
  have i1 : (1 : Int) < (n : Int) := by omega
  have s0 : IntKind.i64.wrap ((n : Int) - 2) = (n : Int) - 2 := IntWalk.i64_in _ (by omega)
  have s1 : IntKind.i64.wrap (x * 256) = x * 256 := IntWalk.i64_in _ (by omega)
  have s2 : IntKind.i64.wrap (x * 256 + y) = x * 256 + y := IntWalk.i64_in _ (by omega)
  have hnt : (n : Int) - 2 = (t.length : Int) := by omega
  have HA := Lib.hid hA; have HNT := Lib.hid hnt
  have hd : decR (x :: y :: t) = (rc0, 3) := by
    simp only [decR]
    rw [if_neg hs, if_pos hs2]
  have HD := Lib.hid hd
  have HM1 : Hid (decide ((n : Int) - 2 < x * 256 + y) = false) := Lib.hid (decide_eq_false (by omega))
  have HM3 : Hid (decide (x * 256 + y < (n : Int) - 2) = true) := Lib.hid (decide_eq_true (by omega))
  have HBL := Lib.hid hbl
  clear hA hd hs hs2 hx hy hA' hnt hl hc hcy hbl
  go_enter Try.func20, Try.ntmps20
  go_upto_region 1 with fail
  go_cut [30] from 12 to 87 (fun s wx => s = .bool false ∧ Below L.heap.size L wx)
  case first =>
    go_quiet (fail)
    go_wp2
    go_meet
    case rel => exact ⟨by first | rfl | rw [HM1.out], below_drawn (Below.refl _ _) _⟩
  case rest =>
    obtain ⟨rfl, hb1⟩ := hcut
    obtain ⟨w1, hw1⟩ : ∃ w1, w1 = wc := ⟨_, rfl⟩
    subst hw1
    have HB1 := Lib.hid hb1
    have HX := Lib.hid (HX.out.below hb1 (by have := HLS.out; omega))
    have hc0 := (hb1.cell (p := ⟨b, off, none⟩) (by have := HBL.out; have := HL0.out.size; show b < _; omega)).trans hc0
    have hc1 := (hb1.cell (p := ⟨b, off + 1, none⟩) (by have := HBL.out; have := HL0.out.size; show b < _; omega)).trans hc1
    clear hb1
    go_upto_region 3 with fail
    go_cut [45] from 31 to 87 (fun s wx => s = .bool true ∧ Below w1.heap.size w1 wx)
    case first =>
      go_quiet (fail)
      go_wp2
      go_meet
      case rel => exact ⟨by first | rfl | rw [HM3.out], below_drawn (Below.refl _ _) _⟩
    case rest =>
      obtain ⟨rfl, hb2⟩ := hcut
      obtain ⟨w2, hw2⟩ : ∃ w2, w2 = wc := ⟨_, rfl⟩
      subst hw2
      have HB2 := Lib.hid (HB1.out.trans (hb2.mono HB1.out.size))
      have HX := Lib.hid (HX.out.below hb2 (heap_lt HX.out))
      clear hb2 hc0 hc1
      obtain ⟨q0, q1, q2, q3, q4, q5, q6, q7, q8, q9, q10, q11⟩ := HX.out.cells
      have hfr := HX.out.fr
      go_wp2
      refine bodyPost_ret (v := .tuple #[.agg rc0.cells, .int .i64 3]) ?_ rfl ⟨by rw [HD.out], ?_⟩
      · exact results_cell2 (p := 2) (u := 3) rfl _ _ b0 34 rc0.cells (0, 0) _ rfl (RcB.put rc0 HX.out) Try.underlying34 rfl rfl
      · rw [HB0.out]
        have h9 := HB0.out ▸ HL0.out.trans (Below.mono HB2.out HL0.out.size)
        repeat' apply Below.setCell
        all_goals first | exact h9 | exact Nat.le_refl _
theorem put_setCells {w : World} {g : Nat} {r0 : Rc} (r : Rc) (h : RcB w g r0) : RcB (w.setCells g 0 r.cells.toList) g r := by
  have := RcB.put r h
  simpa [World.setCells, Rc.cells] using this
theorem rc_info (r : Rc) : (Try.prog.info? 34).map (·.size) = some r.cells.size := by
  show _ = some 12
  kernel_rfl
theorem rc_one (r : Rc) : r.cells.all (·.oneCell') = true := by simp [Rc.cells, Value.oneCell']
theorem rc_there {w : World} {q : Nat} {r0 r5 : Rc} (hx : RcB w q r0) : w.there q 0 r5.cells.size := fun j hj => by
  have hj' : j < 12 := hj
  have h0 : r0.cells.size = 12 := rfl
  unfold RcB at hx
  rw [Nat.zero_add]
  simp [World.cell?, World.frozen?, hx]
  omega
/-- What the operations of the round's region have left. -/
def fdT (rr : Rc) (tg : Int) (l : List Int) (B : Option Addr) (m d bb oo N c1 k bs : Nat) : Nat → (Nat → Value) → World → Prop
  | 0, g, _ => g 0 = .agg rr.cells
  | 1, g, _ => g 1 = .slice (some ⟨bb, oo, none⟩) N c1
  | 2, g, _ => g 2 = .int .i64 (k : Int)
  | 3, g, _ => g 3 = .pointer (some ⟨bb, oo + k * 2, none⟩)
  | 4, g, _ => g 4 = .agg #[.int .i64 tg, .slice B m d]
  | 5, g, _ => ∃ (r5 : Rc) (ok5 : Bool), g 5 = .tuple #[.agg r5.cells, .bool ok5] ∧ setM rr tg l = (if ok5 then some r5 else none)
  | 6, g, _ => ∃ (r5 : Rc) (ok5 : Bool), g 5 = .tuple #[.agg r5.cells, .bool ok5] ∧ g 6 = .tuple #[.agg r5.cells, .bool ok5]
  | 7, g, _ => ∃ (r5 : Rc) (ok5 : Bool), g 6 = .tuple #[.agg r5.cells, .bool ok5] ∧ g 7 = .agg r5.cells
  | 8, g, _ => ∃ (r5 : Rc) (ok5 : Bool), g 6 = .tuple #[.agg r5.cells, .bool ok5] ∧ g 8 = .bool ok5
  | 9, g, w => ∃ (q : Nat) (r0 : Rc), g 9 = .pointer (some ⟨q, 0, none⟩) ∧ bs ≤ q ∧ RcB w q r0
  | 10, g, w => ∃ (q : Nat) (r5 : Rc), g 9 = .pointer (some ⟨q, 0, none⟩) ∧ g 7 = .agg r5.cells ∧ RcB w q r5
  | _, _, _ => True
theorem fdT_below {rr : Rc} {tg : Int} {l : List Int} {B : Option Addr} {m d bb oo N c1 k bs : Nat} {g : Nat → Value} {w w' : World} (hb : Below w.heap.size w w') : ∀ (j : Nat), fdT rr tg l B m d bb oo N c1 k bs j g w → fdT rr tg l B m d bb oo N c1 k bs j g w'
  | 0, h => h | 1, h => h | 2, h => h | 3, h => h | 4, h => h | 5, h => h | 6, h => h | 7, h => h | 8, h => h
  | 9, ⟨q, r0, h1, h2, h3⟩ => ⟨q, r0, h1, h2, h3.below hb (heap_lt h3)⟩
  | 10, ⟨q, r5, h1, h2, h3⟩ => ⟨q, r5, h1, h2, h3.below hb (heap_lt h3)⟩
  | _ + 11, _ => trivial
theorem zero_new (w : World) : RcB (w.alloc (.cells #[.int .i64 0, .int .i64 0, .int .i64 0, .string ⟨#[]⟩, .string ⟨#[]⟩, .int .i64 0, .int .i64 0, .int .i64 0, .int .i64 0, .bool false, .int .i64 0, .bool false] 34)) w.heap.size rc0 := heap_alloc_new _ _
theorem zero_first (wr : World) (w5 : World) (h : Below (wr.alloc (.cells #[.int .i64 0, .int .i64 0, .int .i64 0, .string ⟨#[]⟩, .string ⟨#[]⟩, .int .i64 0, .int .i64 0, .int .i64 0, .int .i64 0, .bool false, .int .i64 0, .bool false] 34)).drew.heap.size (wr.alloc (.cells #[.int .i64 0, .int .i64 0, .int .i64 0, .string ⟨#[]⟩, .string ⟨#[]⟩, .int .i64 0, .int .i64 0, .int .i64 0, .int .i64 0, .bool false, .int .i64 0, .bool false] 34)).drew w5) : RcB w5 wr.heap.size rc0 ∧ Below wr.heap.size wr w5 := by
  have hs : (wr.alloc (.cells #[.int .i64 0, .int .i64 0, .int .i64 0, .string ⟨#[]⟩, .string ⟨#[]⟩, .int .i64 0, .int .i64 0, .int .i64 0, .int .i64 0, .bool false, .int .i64 0, .bool false] 34)).drew.heap.size = wr.heap.size + 1 := World.size_alloc _ _
  have h0 : RcB (wr.alloc (.cells #[.int .i64 0, .int .i64 0, .int .i64 0, .string ⟨#[]⟩, .string ⟨#[]⟩, .int .i64 0, .int .i64 0, .int .i64 0, .int .i64 0, .bool false, .int .i64 0, .bool false] 34)).drew wr.heap.size rc0 := heap_alloc_new wr (.cells #[.int .i64 0, .int .i64 0, .int .i64 0, .string ⟨#[]⟩, .string ⟨#[]⟩, .int .i64 0, .int .i64 0, .int .i64 0, .int .i64 0, .bool false, .int .i64 0, .bool false] 34)
  refine ⟨h0.below h (by omega), (below_lit wr (.cells #[.int .i64 0, .int .i64 0, .int .i64 0, .string ⟨#[]⟩, .string ⟨#[]⟩, .int .i64 0, .int .i64 0, .int .i64 0, .int .i64 0, .bool false, .int .i64 0, .bool false] 34)).trans ((drew_below h).mono (by rw [World.size_alloc]; omega))⟩
theorem keep12 {B g : Nat} {a w : World} (h : Below B a w) (hg : B ≤ g) (v0 v1 v2 v3 v4 v5 v6 v7 v8 v9 v10 v11 : Value) : Below B a ((((((((((((w.setCell ⟨g, 0, none⟩ v0).setCell ⟨g, 1, none⟩ v1).setCell ⟨g, 2, none⟩ v2).setCell ⟨g, 3, none⟩ v3).setCell ⟨g, 4, none⟩ v4).setCell ⟨g, 5, none⟩ v5).setCell ⟨g, 6, none⟩ v6).setCell ⟨g, 7, none⟩ v7).setCell ⟨g, 8, none⟩ v8).setCell ⟨g, 9, none⟩ v9).setCell ⟨g, 10, none⟩ v10).setCell ⟨g, 11, none⟩ v11) := by
  repeat' apply Below.setCell
  all_goals first | exact h | exact hg
theorem elm_tags : ∀ (k : Nat) (l : List Int) (q : Int), (∀ x ∈ l, 0 ≤ x ∧ x ≤ 255) → ∀ e ∈ (elmF k l q).1, 1 ≤ e.1
  | 0, l, q, _, e, h => by simp [elmF] at h
  | k + 1, [], q, _, e, h => by rw [elmF_nil] at h; simp at h
  | k + 1, [t], q, _, e, h => by
    by_cases h1 : t = 0 <;> by_cases h2 : t ≤ q <;> simp [elmF_one, h1, h2] at h
  | k + 1, t :: z :: s, q, hr, e, h => by
    have ht := hr t (List.mem_cons_self ..)
    rw [elmF_cons] at h
    by_cases h1 : t = 0
    · rw [if_pos h1] at h; simp at h
    · rw [if_neg h1] at h
      by_cases h2 : t ≤ q
      · rw [if_pos h2] at h; simp at h
      · rw [if_neg h2] at h
        by_cases h3 : (s.length : Int) < z
        · rw [if_pos h3] at h; simp at h
        · rw [if_neg h3] at h
          rcases List.mem_cons.1 h with rfl | h
          · show 1 ≤ t; omega
          · exact elm_tags k (s.drop z.toNat) t (fun x hx => hr x (List.mem_cons_of_mem _ (List.mem_cons_of_mem _ (List.mem_of_mem_drop hx)))) e h
set_option maxRecDepth 100000 in
set_option maxHeartbeats 32000000 in
theorem rdec_bad {A : Option Addr} {n c : Nat} {x y : Int} {t : List Int} {w : World} (hA : Byt w A n c (x :: y :: t)) (hn : n ≤ 100000) (hs : ¬ (t.length : Int) < x * 256 + y) (hs2 : ¬ x * 256 + y < (t.length : Int)) (hc2 : c ≠ 2) {E : Int} (he : (elmR t).2 = E) (h0 : E ≠ 0) : Calls Try.prog 20 #[.slice A n c] w (DecP (x :: y :: t) w) := by
  obtain ⟨L, hL, hL0, hx, hLs⟩ := rec_world w rc0
  obtain ⟨b0, hb0⟩ : ∃ b0, w.heap.size = b0 := ⟨_, rfl⟩
  rw [hb0] at hx
  have hni : (n : Int) ≤ 100000 := by omega
  have HX := Lib.hid hx; have HL0 := Lib.hid hL0; have HB0 := Lib.hid hb0; have HLS : Hid (L.heap.size = b0 + 1) := Lib.hid (by omega)
  simp only [Rc.cells, rc0] at hL
  clear hx hL0 hLs
  have hl := hA.len
  simp only [List.length_cons] at hl
  obtain ⟨b, off, x', rfl, hx, hc, hbl⟩ := hA.at (k := 0) (by omega)
  obtain ⟨b', off', y', hA', hy, hcy, -⟩ := hA.at (k := 1) (by omega)
  obtain ⟨rfl, rfl⟩ : b = b' ∧ off = off' := by simpa using hA'
  obtain rfl : x = x' := by simpa using hx
  obtain rfl : y = y' := by simpa using hy
  rw [Nat.add_zero] at hc
  have hc0 := (HL0.out.cell (p := ⟨b, off, none⟩) hbl).trans hc
  have hc1 := (HL0.out.cell (p := ⟨b, off + 1, none⟩) hbl).trans hcy
  obtain ⟨hx0, hx1⟩ := hA.ran x (by simp)
  obtain ⟨hy0, hy1⟩ := hA.ran y (by simp)
  have h2 : ¬ (n : Int) < 2 := by omega
  have h2b : decide ((n : Int) < 2) = false := by simp; omega
  have i0 : (0 : Int) < (n : Int) := by omega
  have i1 : (1 : Int) < (n : Int) := by omega
  have s0 : IntKind.i64.wrap ((n : Int) - 2) = (n : Int) - 2 := IntWalk.i64_in _ (by omega)
  have s1 : IntKind.i64.wrap (x * 256) = x * 256 := IntWalk.i64_in _ (by omega)
  have s2 : IntKind.i64.wrap (x * 256 + y) = x * 256 + y := IntWalk.i64_in _ (by omega)
  have hnt : (n : Int) - 2 = (t.length : Int) := by omega
  have HA := Lib.hid hA; have HNT := Lib.hid hnt
  have hdf := dec_fit hs hs2
  have HM1 : Hid (decide ((n : Int) - 2 < x * 256 + y) = false) := Lib.hid (decide_eq_false (by omega))
  have HM3 : Hid (decide (x * 256 + y < (n : Int) - 2) = false) := Lib.hid (decide_eq_false (by omega))
  have HBL := Lib.hid hbl
  have HTR : Hid (∀ e ∈ (elmR t).1, 1 ≤ e.1) := Lib.hid (elm_tags _ t 0 (fun z hz => hA.ran z (List.mem_cons_of_mem _ (List.mem_cons_of_mem _ hz))))
  have HTL : Hid (t.length ≤ 100000) := Lib.hid (by omega)
  have HEL := Lib.hid (elm_le (t.length + 1) t 0)
  have HSZ := Lib.hid (elm_sizes (t.length + 1) t 0)
  have HQ := Lib.hid (byt_drop hA 2 (by omega))
  simp only [List.drop_succ_cons, List.drop_zero] at HQ
  have hcap := hA.cap
  have hmax := hA.max
  have h2n : (2 : Int) ≤ (n : Int) := by omega
  have hcn : (n : Int) ≤ (c : Int) := by omega
  unfold maxLen at hmax
  rw [he, if_pos h0] at hdf
  have HD := Lib.hid hdf
  have HX2 := Lib.hid he; have HX3 := Lib.hid h0
  have h0b : (E != 0) = true := by simp [h0]
  clear hA hdf hs hs2 hx hy hA' hnt hl hc hcy hbl he h0
  go_enter Try.func20, Try.ntmps20
  go_upto_region 1 with fail
  go_cut [30] from 12 to 87 (fun s wx => s = .bool false ∧ Below L.heap.size L wx)
  case first =>
    go_quiet (fail)
    go_wp2
    go_meet
    case rel => exact ⟨by first | rfl | rw [HM1.out], below_drawn (Below.refl _ _) _⟩
  case rest =>
    obtain ⟨rfl, hb1⟩ := hcut
    obtain ⟨w1, hw1⟩ : ∃ w1, w1 = wc := ⟨_, rfl⟩
    subst hw1
    have HB1 := Lib.hid hb1
    have HX := Lib.hid (HX.out.below hb1 (by have := HLS.out; omega))
    have hc0 := (hb1.cell (p := ⟨b, off, none⟩) (by have := HBL.out; have := HL0.out.size; show b < _; omega)).trans hc0
    have hc1 := (hb1.cell (p := ⟨b, off + 1, none⟩) (by have := HBL.out; have := HL0.out.size; show b < _; omega)).trans hc1
    clear hb1
    go_upto_region 3 with fail
    go_cut [45] from 31 to 87 (fun s wx => s = .bool false ∧ Below w1.heap.size w1 wx)
    case first =>
      go_quiet (fail)
      go_wp2
      go_meet
      case rel => exact ⟨by first | rfl | rw [HM3.out], below_drawn (Below.refl _ _) _⟩
    case rest =>
      obtain ⟨rfl, hb2⟩ := hcut
      obtain ⟨w2, hw2⟩ : ∃ w2, w2 = wc := ⟨_, rfl⟩
      subst hw2
      have HB2 := Lib.hid (HB1.out.trans (hb2.mono HB1.out.size))
      have HX := Lib.hid (HX.out.below hb2 (heap_lt HX.out))
      clear hb2 hc0 hc1
      go_wp2_with (go_at_call 15; refine (refElements_any (HQ.out.below (HL0.out.trans (HB2.out.mono HL0.out.size))) (by omega)).mono ?_; rintro e w3 ⟨h3, hb3⟩; rw [if_neg (by rw [HX2.out]; exact HX3.out), HX2.out] at h3; subst h3; have HB3 := Lib.hid (HB2.out.trans (hb3.mono HB2.out.size)); have HX := Lib.hid (HX.out.below hb3 (heap_lt HX.out)); clear hb3; obtain ⟨q0, q1, q2, q3, q4, q5, q6, q7, q8, q9, q10, q11⟩ := HX.out.cells; have hfr := HX.out.fr)
      refine bodyPost_ret (v := .tuple #[.agg rc0.cells, .int .i64 E]) ?_ rfl ⟨by rw [HD.out], ?_⟩
      · exact results_cell2 (p := 2) (u := 3) rfl _ _ b0 34 rc0.cells (0, 0) _ rfl (RcB.put rc0 HX.out) Try.underlying34 rfl rfl
      · rw [HB0.out]
        have h9 := HB0.out ▸ HL0.out.trans (Below.mono HB3.out HL0.out.size)
        repeat' apply Below.setCell
        all_goals first | exact h9 | exact Nat.le_refl _
end Go.Proofs.Ytinnmnhaeejfdaa
