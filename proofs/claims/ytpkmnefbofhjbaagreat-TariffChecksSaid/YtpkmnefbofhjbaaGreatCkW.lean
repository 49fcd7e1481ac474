/- Walks: the reference's own and result, and the program's signature. -/
import Derived.Test.YtpkmnefbofhjbaaGreatCkV
import Derived.RegionTactic
namespace Go.Proofs.YtpkmnefbofhjbaaGreat.Ck
open Go Go.Lib Go.RowKit Go.Proofs.YtpkmnefbofhjbaaGreat

theorem attribute_is {s : ByteArray} {v : Int} (h : attr s = v) (w : World) : Calls Tryz.prog 123 #[.string s] w fun e w' => e = .returned (.int .i64 v) ∧ Below w.heap.size w w' := by
  subst h; exact attribute_any s w
set_option maxRecDepth 100000 in
set_option maxHeartbeats 16000000 in
theorem refOwn_any (op num : Int) (tx : ByteArray) (A : Option Addr) (n c : Nat) (w : World) (hc : n ≤ c) (hm : c ≤ maxLen) (ht : tx.size ≤ maxLen) :
    Calls Tryz.prog 117 #[.agg #[.int .i64 op, .int .i64 num, .string tx, .slice A n c]] w fun e w' => e = .returned (.int .i64 (ownE op num tx n)) ∧ Below w.heap.size w w' := by
  unfold maxLen at hm ht
  have hB := Blk.new w 67 #[.int .i64 op, .int .i64 num, .string tx, .slice A n c]
  obtain ⟨c0, c1, c2, c3⟩ := four hB
  have HB := Lib.hid (below_one w (.cells #[.int .i64 op, .int .i64 num, .string tx, .slice A n c] 67))
  have HBK := Lib.hid hB
  clear hB
  obtain ⟨a, ha⟩ : ∃ a, arity op = a := ⟨_, rfl⟩
  have HO := Lib.hid (arity_is ha)
  obtain ⟨va, hva⟩ : ∃ v, (a != (n : Int)) = v := ⟨_, rfl⟩
  have HVA : Hid (((n : Int) != arity op) = va) := Lib.hid (by rw [ha, ← hva, bne_comm])
  clear ha
  cases va
  · have HS := Lib.hid (own_no (num := num) (tx := tx) HVA.out)
    obtain ⟨v1, h1⟩ : ∃ v, (op == 1) = v := ⟨_, rfl⟩
    obtain ⟨v2, h2⟩ : ∃ v, (op == 2) = v := ⟨_, rfl⟩
    obtain ⟨v3, h3⟩ : ∃ v, (op == 3) = v := ⟨_, rfl⟩
    obtain ⟨y0, hy0⟩ : ∃ v, decide (num < 0) = v := ⟨_, rfl⟩
    obtain ⟨y1, hy1⟩ : ∃ v, decide (1099511627776 < num) = v := ⟨_, rfl⟩
    obtain ⟨vs, hs⟩ : ∃ v, decide (200 < (tx.size : Int)) = v := ⟨_, rfl⟩
    obtain ⟨sv, hsv⟩ : ∃ v, attr tx = v := ⟨_, rfl⟩
    obtain ⟨vt, hvt⟩ : ∃ v, (sv == 0) = v := ⟨_, rfl⟩
    have HSV := Lib.hid (attribute_is hsv)
    have HV : Hid (ownE op num tx n = if v1 = true ∧ (y0 = true ∨ y1 = true) then 6 else if v2 = true ∧ vs = true then 5 else if v3 = true ∧ vt = true then 11 else 0) := Lib.hid (by
      have hq : (inB num 0 1099511627776 = false) = (y0 = true ∨ y1 = true) := by
        apply propext
        rw [← hy0, ← hy1]
        unfold inB
        simp only [Bool.and_eq_false_iff, decide_eq_false_iff_not, decide_eq_true_eq]
        omega
      rw [HS.out, hsv, ← h1, ← h2, ← h3, ← hs, ← hvt]
      simp only [hq, beq_iff_eq, decide_eq_true_eq]
      simp only [show (200 < (tx.size : Int)) = (200 < tx.size) by apply propext; omega])
    clear hsv HS HVA
    have hex : (v1 = false ∧ v2 = false ∧ v3 = false) ∨ (v1 = false ∧ v2 = false ∧ v3 = true) ∨ (v1 = false ∧ v2 = true ∧ v3 = false) ∨ (v1 = true ∧ v2 = false ∧ v3 = false) := by
      by_cases e1 : op = 1
      · subst e1; subst h1 h2 h3; simp
      · by_cases e2 : op = 2
        · subst e2; subst h1 h2 h3; simp
        · by_cases e3 : op = 3
          · subst e3; subst h1 h2 h3; simp
          · left
            refine ⟨?_, ?_, ?_⟩
            · rw [← h1, beq_eq_false_iff_ne]; exact e1
            · rw [← h2, beq_eq_false_iff_ne]; exact e2
            · rw [← h3, beq_eq_false_iff_ne]; exact e3
    rcases hex with ⟨rfl, rfl, rfl⟩ | ⟨rfl, rfl, rfl⟩ | ⟨rfl, rfl, rfl⟩ | ⟨rfl, rfl, rfl⟩
    · skip
      go_enter Tryz.func117, Tryz.ntmps117
      go_wp2_with fail
      go_quiet ((go_at_call 122; exact Calls.quiet_of_same (HO.out _)))
      generalize hW : World.drewN (w.alloc (.cells #[.int .i64 op, .int .i64 num, .string tx, .slice A n c] 67)) _ = W4
      have HB4 : Hid (Below w.heap.size w W4) := Lib.hid (hW ▸ below_dN HB.out _)
      obtain ⟨c0, c1, c2, c3⟩ := four (hW ▸ HBK.out.drewN _ : Blk W4 _ 67 #[.int .i64 op, .int .i64 num, .string tx, .slice A n c])
      clear hW
      go_wp2_with fail
      go_ret
      exact ⟨ret_i (by rw [HV.out] <;> rfl), HB4.out⟩
    · cases vt
      all_goals
        go_enter Tryz.func117, Tryz.ntmps117
        go_wp2_with fail
        go_quiet ((go_at_call 122; exact Calls.quiet_of_same (HO.out _)))
        generalize hW : World.drewN (w.alloc (.cells #[.int .i64 op, .int .i64 num, .string tx, .slice A n c] 67)) _ = W4
        have HB4 : Hid (Below w.heap.size w W4) := Lib.hid (hW ▸ below_dN HB.out _)
        obtain ⟨c0, c1, c2, c3⟩ := four (hW ▸ HBK.out.drewN _ : Blk W4 _ 67 #[.int .i64 op, .int .i64 num, .string tx, .slice A n c])
        clear hW
        go_wp2_with (go_at_call 123; (with_reducible refine (HSV.out _).mono ?_); rintro e w1 ⟨rfl, hb1⟩; have HB5 := Lib.hid (HB4.out.trans (hb1.mono HB4.out.size)); clear hb1 c0 c1 c2 c3)
        go_ret
        exact ⟨ret_i (by rw [HV.out] <;> rfl), HB5.out⟩
    · cases vs
      all_goals
        go_enter Tryz.func117, Tryz.ntmps117
        go_wp2_with fail
        go_quiet ((go_at_call 122; exact Calls.quiet_of_same (HO.out _)))
        generalize hW : World.drewN (w.alloc (.cells #[.int .i64 op, .int .i64 num, .string tx, .slice A n c] 67)) _ = W4
        have HB4 : Hid (Below w.heap.size w W4) := Lib.hid (hW ▸ below_dN HB.out _)
        obtain ⟨c0, c1, c2, c3⟩ := four (hW ▸ HBK.out.drewN _ : Blk W4 _ 67 #[.int .i64 op, .int .i64 num, .string tx, .slice A n c])
        clear hW
        go_wp2_with fail
        go_ret
        exact ⟨ret_i (by rw [HV.out] <;> rfl), HB4.out⟩
    · cases y0 <;> cases y1
      all_goals
        go_enter Tryz.func117, Tryz.ntmps117
        go_wp2_with fail
        go_quiet ((go_at_call 122; exact Calls.quiet_of_same (HO.out _)))
        generalize hW : World.drewN (w.alloc (.cells #[.int .i64 op, .int .i64 num, .string tx, .slice A n c] 67)) _ = W4
        have HB4 : Hid (Below w.heap.size w W4) := Lib.hid (hW ▸ below_dN HB.out _)
        obtain ⟨c0, c1, c2, c3⟩ := four (hW ▸ HBK.out.drewN _ : Blk W4 _ 67 #[.int .i64 op, .int .i64 num, .string tx, .slice A n c])
        clear hW
        go_wp2_with fail
        go_ret
        exact ⟨ret_i (by rw [HV.out] <;> rfl), HB4.out⟩
  · have HS := Lib.hid (own_ar (num := num) (tx := tx) HVA.out)
    go_enter Tryz.func117, Tryz.ntmps117
    go_wp2_with fail
    go_quiet ((go_at_call 122; exact Calls.quiet_of_same (HO.out _)))
    generalize hW : World.drewN (w.alloc (.cells #[.int .i64 op, .int .i64 num, .string tx, .slice A n c] 67)) _ = W4
    have HB4 : Hid (Below w.heap.size w W4) := Lib.hid (hW ▸ below_dN HB.out _)
    clear hW
    go_wp2_with fail
    go_ret
    exact ⟨ret_i (by rw [HS.out] <;> rfl), HB4.out⟩
theorem ir_cell {w : World} {B : Option Addr} {l : List Int} (h : IR w B l) {k : Nat} (hk : k < l.length) : ∃ b off, B = some ⟨b, off, none⟩ ∧ b < w.heap.size ∧ w.cell? ⟨b, off + k, none⟩ = some (.int .i64 (l.getD k 0)) := h k hk
theorem ir_two {w : World} {B : Option Addr} {x y : Int} (h : IR w B [x, y]) : ∃ b off, B = some ⟨b, off, none⟩ ∧ b < w.heap.size ∧ w.cell? ⟨b, off, none⟩ = some (.int .i64 x) ∧ w.cell? ⟨b, off + 1, none⟩ = some (.int .i64 y) := by
  obtain ⟨b, off, e, h1, h2⟩ := h 0 (by decide : 0 < 2)
  obtain ⟨b', off', e', h1', h2'⟩ := h 1 (by decide : 1 < 2)
  rw [e] at e'
  cases e'
  exact ⟨b, off, e, h1, h2, h2'⟩
theorem ir_one {w : World} {B : Option Addr} {x : Int} (h : IR w B [x]) : ∃ b off, B = some ⟨b, off, none⟩ ∧ b < w.heap.size ∧ w.cell? ⟨b, off, none⟩ = some (.int .i64 x) := by
  obtain ⟨b, off, e, h1, h2⟩ := h 0 (by decide : 0 < 1)
  exact ⟨b, off, e, h1, h2⟩
theorem ops16 {op : Int} (h : arity op = 2) : op = 5 ∨ op = 6 ∨ op = 7 ∨ op = 8 ∨ op = 9 ∨ op = 10 ∨ op = 11 ∨ op = 12 ∨ op = 13 ∨ op = 14 ∨ op = 15 := by
  unfold arity at h
  split at h
  · exact absurd h (by decide)
  · split at h
    · exact absurd h (by decide)
    · split at h
      · omega
      · exact absurd h (by decide)
set_option maxRecDepth 100000 in
set_option maxHeartbeats 16000000 in
theorem signature_any (op num : Int) (tx : ByteArray) (A : Option Addr) (n c : Nat) (B : Option Addr) (m c2 : Nat) (l : List Int) (w : World) (hm : l.length = m) (ha : (l.length : Int) = arity op) (hB : IR w B l) (hc : m ≤ c2) :
    Calls Tryz.prog 114 #[.agg #[.int .i64 op, .int .i64 num, .string tx, .slice A n c], .slice B m c2] w fun e w' => e = .returned (.tuple #[.int .i64 (sigE op tx l).1, .int .i64 (sigE op tx l).2]) ∧ Below w.heap.size w w' := by
  have HB := Lib.hid (below_one w (.cells #[.int .i64 op, .int .i64 num, .string tx, .slice A n c] 67))
  obtain ⟨c0, c1, c2, c3⟩ := four (Blk.new w 67 #[.int .i64 op, .int .i64 num, .string tx, .slice A n c])
  have HSO := Lib.hid (fun W => sort_any tx W)
  rcases len_cases ha with ⟨h1, h3, rfl⟩ | ⟨rfl, x, rfl⟩ | ⟨h1, h2, x, y, rfl⟩
  · have : op = 1 ∨ op = 2 ∨ op = 3 := by omega
    clear h1 h3 ha
    rcases this with rfl | rfl | rfl
    all_goals
      go_enter Tryz.func114, Tryz.ntmps114
      go_wp2_with (go_at_call 120; (with_reducible refine (HSO.out _).mono ?_); rintro e w1 ⟨rfl, rfl⟩)
      go_ret2
      exact ⟨rfl, HB.out⟩
  · go_enter Tryz.func114, Tryz.ntmps114
    go_wp2_with fail
    go_ret2
    exact ⟨rfl, HB.out⟩
  · obtain rfl : m = 2 := by rw [← hm]; rfl
    obtain ⟨b, off, rfl, hbl, g0, g1⟩ := ir_two hB
    have e0 := ((below_one w (.cells #[.int .i64 op, .int .i64 num, .string tx, .slice A n c] 67)).cell (p := ⟨b, off, none⟩) hbl).trans g0
    obtain ⟨v, hv⟩ : ∃ v, (x == 2) = v := ⟨_, rfl⟩
    have HV : Hid (sigE 7 tx [x, y] = (if v = true then (2, 3) else (1, 3)) ∧ sigE 8 tx [x, y] = (if v = true then (2, 3) else (1, 3))) := Lib.hid (by
      have e1 : sigE 7 tx [x, y] = if x = 2 then (2, 3) else (1, 3) := rfl
      have e2 : sigE 8 tx [x, y] = if x = 2 then (2, 3) else (1, 3) := rfl
      rw [e1, e2, ← hv]; simp)
    have hop := ops16 (op := op) (by rw [← ha]; rfl)
    clear h1 h2 ha hm hB g0 g1
    rcases hop with rfl | rfl | rfl | rfl | rfl | rfl | rfl | rfl | rfl | rfl | rfl
    all_goals first | skip
    case' _ => skip
    all_goals cases v
    all_goals
      go_enter Tryz.func114, Tryz.ntmps114
      go_wp2_with fail
      go_ret2
      first | exact ⟨rfl, HB.out⟩ | exact ⟨by rw [HV.out.1] <;> rfl, HB.out⟩ | exact ⟨by rw [HV.out.2] <;> rfl, HB.out⟩
set_option maxRecDepth 100000 in
set_option maxHeartbeats 16000000 in
theorem refResult_any (op num : Int) (tx : ByteArray) (A : Option Addr) (n c : Nat) (B : Option Addr) (m c2 : Nat) (l : List Int) (w : World) (hm : l.length = m) (ha : (l.length : Int) = arity op) (hB : IR w B l) (hc : m ≤ c2) :
    Calls Tryz.prog 118 #[.agg #[.int .i64 op, .int .i64 num, .string tx, .slice A n c], .slice B m c2] w fun e w' => e = .returned (.int .i64 (resE op tx l)) ∧ Below w.heap.size w w' := by
  have HB := Lib.hid (below_one w (.cells #[.int .i64 op, .int .i64 num, .string tx, .slice A n c] 67))
  have HBK := Lib.hid (Blk.new w 67 #[.int .i64 op, .int .i64 num, .string tx, .slice A n c])
  obtain ⟨c0, c1, c2, c3⟩ := four HBK.out
  rcases len_cases ha with ⟨h1, h3, rfl⟩ | ⟨rfl, x, rfl⟩ | ⟨h1, h2, x, y, rfl⟩
  · have : op = 1 ∨ op = 2 ∨ op = 3 := by omega
    have HSO := Lib.hid (fun W => attribute_any tx W)
    clear h1 h3 ha
    rcases this with rfl | rfl | rfl
    case' _ => skip
    · go_enter Tryz.func118, Tryz.ntmps118
      go_wp2_with fail
      go_ret
      exact ⟨rfl, HB.out⟩
    · go_enter Tryz.func118, Tryz.ntmps118
      go_wp2_with fail
      go_ret
      exact ⟨rfl, HB.out⟩
    · go_enter Tryz.func118, Tryz.ntmps118
      go_wp2_with (go_at_call 123; (with_reducible refine (HSO.out _).mono ?_); rintro e w1 ⟨rfl, hb1⟩; have HB5 := Lib.hid (HB.out.trans (hb1.mono HB.out.size)); clear hb1 c0 c1 c2 c3)
      go_ret
      exact ⟨rfl, HB5.out⟩
  · obtain rfl : m = 1 := by rw [← hm]; rfl
    obtain ⟨b, off, rfl, hbl, g0⟩ := ir_one hB
    have e0 := ((below_one w (.cells #[.int .i64 4, .int .i64 num, .string tx, .slice A n c] 67)).cell (p := ⟨b, off, none⟩) hbl).trans g0
    obtain ⟨v, hv⟩ : ∃ v, (x == 3) = v := ⟨_, rfl⟩
    have HV : Hid (resE 4 tx [x] = if v = true then 3 else 0) := Lib.hid (by
      have e1 : resE 4 tx [x] = if x = 3 then 3 else 0 := rfl
      rw [e1, ← hv]; simp)
    clear ha hm hB g0
    cases v
    all_goals
      go_enter Tryz.func118, Tryz.ntmps118
      go_wp2_with fail
      go_ret
      exact ⟨ret_i HV.out.symm, HB.out⟩
  · obtain rfl : m = 2 := by rw [← hm]; rfl
    obtain ⟨b, off, rfl, hbl, g0, g1⟩ := ir_two hB
    have e0 := ((below_one w (.cells #[.int .i64 op, .int .i64 num, .string tx, .slice A n c] 67)).cell (p := ⟨b, off, none⟩) hbl).trans g0
    have e1 := ((below_one w (.cells #[.int .i64 op, .int .i64 num, .string tx, .slice A n c] 67)).cell (p := ⟨b, off + 1, none⟩) hbl).trans g1
    have hop := ops16 (op := op) (by rw [← ha]; rfl)
    have HBL := Lib.hid (show b < (w.alloc (.cells #[.int .i64 op, .int .i64 num, .string tx, .slice A n c] 67)).heap.size by simp; omega)
    clear h1 h2 ha hm hB g0 g1
    have HR0 : Hid (x ≠ y → resE op tx [x, y] = 0) := Lib.hid (fun h => by
      unfold resE
      have g : ([x, y] : List Int).getD 0 0 ≠ [x, y].getD 1 0 := h
      rcases hop with rfl | rfl | rfl | rfl | rfl | rfl | rfl | rfl | rfl | rfl | rfl
      all_goals rw [if_neg (by decide), if_neg (by decide), if_neg (by decide), if_neg (by decide), if_pos g])
    have HRX : Hid (x ≠ 3 → x ≠ 1 → resE op tx [x, x] = if op = 7 ∨ op = 8 then 3 else 0) := Lib.hid (fun h3 h1 => by
      have e3 : ([x, x] : List Int).getD 0 0 = x := rfl
      have e4 : ([x, x] : List Int).getD 1 0 = x := rfl
      unfold resE
      rw [e3, e4]
      rcases hop with rfl | rfl | rfl | rfl | rfl | rfl | rfl | rfl | rfl | rfl | rfl
      all_goals simp [h3, h1])
    by_cases hxy : x = y
    · subst hxy
      have dxy : (x != x) = false := by simp
      by_cases h3 : x = 3
      · subst h3
        rcases hop with rfl | rfl | rfl | rfl | rfl | rfl | rfl | rfl | rfl | rfl | rfl
        all_goals
          go_enter Tryz.func118, Tryz.ntmps118
          go_wp2_with fail
          go_quiet (fail)
          generalize hW : World.drewN _ _ = W4
          have HB4 : Hid (Below w.heap.size w W4) := Lib.hid (hW ▸ below_dN HB.out _)
          obtain ⟨k0, k1, k2, k3⟩ := four (hW ▸ HBK.out.drewN _ : Blk W4 _ 67 #[.int .i64 _, .int .i64 num, .string tx, .slice A n c])
          have f0 : W4.cell? ⟨b, off, none⟩ = some (.int .i64 3) := hW ▸ e0
          clear hW
          go_wp2_with fail
          go_ret
          exact ⟨rfl, HB4.out⟩
      · have d3 : (x == 3) = false := by rw [beq_eq_false_iff_ne]; exact h3
        have d3' : (x != 3) = true := by rw [bne, d3]; rfl
        by_cases h1 : x = 1
        · subst h1
          rcases hop with rfl | rfl | rfl | rfl | rfl | rfl | rfl | rfl | rfl | rfl | rfl
          all_goals
            go_enter Tryz.func118, Tryz.ntmps118
            go_wp2_with fail
            go_quiet (fail)
            generalize hW : World.drewN _ _ = W4
            have HB4 : Hid (Below w.heap.size w W4) := Lib.hid (hW ▸ below_dN HB.out _)
            obtain ⟨k0, k1, k2, k3⟩ := four (hW ▸ HBK.out.drewN _ : Blk W4 _ 67 #[.int .i64 _, .int .i64 num, .string tx, .slice A n c])
            have f0 : W4.cell? ⟨b, off, none⟩ = some (.int .i64 1) := hW ▸ e0
            clear hW
            go_wp2_with fail
            go_ret
            exact ⟨rfl, HB4.out⟩
        · have d1 : (x == 1) = false := by rw [beq_eq_false_iff_ne]; exact h1
          have HRV := Lib.hid (HRX.out h3 h1)
          clear h3 h1
          rcases hop with rfl | rfl | rfl | rfl | rfl | rfl | rfl | rfl | rfl | rfl | rfl
          all_goals
            go_enter Tryz.func118, Tryz.ntmps118
            go_wp2_with fail
            go_quiet (fail)
            generalize hW : World.drewN _ _ = W4
            have HB4 : Hid (Below w.heap.size w W4) := Lib.hid (hW ▸ below_dN HB.out _)
            obtain ⟨k0, k1, k2, k3⟩ := four (hW ▸ HBK.out.drewN _ : Blk W4 _ 67 #[.int .i64 _, .int .i64 num, .string tx, .slice A n c])
            have f0 : W4.cell? ⟨b, off, none⟩ = some (.int .i64 x) := hW ▸ e0
            clear hW
            go_wp2_with fail
            go_ret
            exact ⟨ret_i (by rw [HRV.out] <;> rfl), HB4.out⟩
    · have dxy : (x != y) = true := by rw [bne_iff_ne]; exact hxy
      have HRV := Lib.hid (HR0.out hxy)
      clear hxy
      rcases hop with rfl | rfl | rfl | rfl | rfl | rfl | rfl | rfl | rfl | rfl | rfl
      all_goals
        go_enter Tryz.func118, Tryz.ntmps118
        go_wp2_with fail
        go_quiet (fail)
        generalize hW : World.drewN _ _ = W4
        have HB4 : Hid (Below w.heap.size w W4) := Lib.hid (hW ▸ below_dN HB.out _)
        obtain ⟨k0, k1, k2, k3⟩ := four (hW ▸ HBK.out.drewN _ : Blk W4 _ 67 #[.int .i64 _, .int .i64 num, .string tx, .slice A n c])
        have f0 : W4.cell? ⟨b, off, none⟩ = some (.int .i64 x) := hW ▸ e0
        clear hW
        go_wp2_with fail
        go_ret
        exact ⟨ret_i (by rw [HRV.out] <;> rfl), HB4.out⟩
end Go.Proofs.YtpkmnefbofhjbaaGreat.Ck
